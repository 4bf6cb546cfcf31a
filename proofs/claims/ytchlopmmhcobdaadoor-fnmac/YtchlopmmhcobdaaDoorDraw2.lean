/-
  Contracts of the draws of chapter 3: a text of at most 200 bytes; a key and a text; a pass and a number.
-/
import Derived.Test.YtchlopmmhcobdaaDoorDrawMore
import Derived.Deep.RegionWith
namespace Go.Proofs.YtchlopmmhcobdaaDoor
open Go.RowKit Go.Lib
set_option linter.unusedVariables false

set_option maxHeartbeats 1000000 in
set_option maxRecDepth 10000 in
theorem drawDigest_any (a : Option Addr) (len cap : Nat) (w : World) (hc : Code w w.heap.size a len) (hl : len ≤ 1048576) :
    Calls Tryd.prog 20 #[.slice a len cap] w fun e w' => TextAns 200 w e w' := by
  have H0 : Hid (∀ w, Code w w.heap.size a len → Calls Tryd.prog 59 #[.slice a len cap] w fun e w' => PtrAns w e w') := fun w h => source_any a len cap w h hl
  have H3 : Hid (∀ q w, Src w q → Calls Tryd.prog 65 #[.pointer (some ⟨q, 0, none⟩), .int .i64 200] w fun e w' => NumAns 200 q w e w') := fun q w h => n_any q 200 w h (by omega)
  have H4 : Hid (∀ q n w, Src w q → 0 ≤ n → n ≤ 1048576 → Calls Tryd.prog 66 #[.pointer (some ⟨q, 0, none⟩), .int .i64 n] w fun e w' => StrAns n q w e w') := fun q n w h h0 h1 => bytes_any q n w h h0 h1
  have HC : Hid (Code w w.heap.size a len) := hc
  clear hc
  go_enter Tryd.func20, Tryd.ntmps20
  go_wp2_with fail
  refine (H0.out _ HC.out).mono ?_
  rintro e w1 ⟨rfl, hs1, hb1⟩
  have HB1 : Hid (Src w1 w.heap.size ∧ Below w.heap.size w w1) := ⟨hs1, hb1⟩
  clear hs1 hb1 H0 HC
  go_wp2_with fail
  refine (H3.out _ _ HB1.out.1).mono ?_
  rintro e w3 ⟨v, rfl, hv0, hv1, hs3, hg3⟩
  have HB3 : Hid (Src w3 w.heap.size ∧ Below w.heap.size w w3) := ⟨hs3, below_of_grown HB1.out.2 hg3⟩
  clear hs3 hg3 HB1
  go_wp2_with fail
  refine (H4.out _ v _ HB3.out.1 hv0 (by omega)).mono ?_
  rintro e w4 ⟨t, rfl, ht, hs4, hg4⟩
  have HB4 : Hid (Below w.heap.size w w4) := below_of_grown HB3.out.2 hg4
  clear hs4 hg4 HB3
  go_wp2
  go_ret
  exact ⟨t, rfl, by omega, HB4.out⟩

/-- Two texts, of at most m and n bytes; of what was there nothing has turned. -/
def TwoAns (m n : Int) (w : World) (e : Ending) (w' : World) : Prop := ∃ s t : ByteArray, e = .returned (.tuple #[.string s, .string t]) ∧ (s.size : Int) ≤ m ∧ (t.size : Int) ≤ n ∧ Below w.heap.size w w'

set_option maxHeartbeats 1000000 in
set_option maxRecDepth 10000 in
theorem drawMac_any (a : Option Addr) (len cap : Nat) (w : World) (hc : Code w w.heap.size a len) (hl : len ≤ 1048576) :
    Calls Tryd.prog 16 #[.slice a len cap] w fun e w' => TwoAns 66 100 w e w' := by
  have H0 : Hid (∀ w, Code w w.heap.size a len → Calls Tryd.prog 59 #[.slice a len cap] w fun e w' => PtrAns w e w') := fun w h => source_any a len cap w h hl
  have H1 : Hid (∀ q w, Src w q → Calls Tryd.prog 64 #[.pointer (some ⟨q, 0, none⟩), .int .i64 6] w fun e w' => BoolAns q w e w') := fun q w h => one_any q 6 w h (by omega)
  have H2 : Hid (∀ q w, Src w q → Calls Tryd.prog 65 #[.pointer (some ⟨q, 0, none⟩), .int .i64 3] w fun e w' => NumAns 3 q w e w') := fun q w h => n_any q 3 w h (by omega)
  have H3 : Hid (∀ q w, Src w q → Calls Tryd.prog 65 #[.pointer (some ⟨q, 0, none⟩), .int .i64 20] w fun e w' => NumAns 20 q w e w') := fun q w h => n_any q 20 w h (by omega)
  have H5 : Hid (∀ q w, Src w q → Calls Tryd.prog 65 #[.pointer (some ⟨q, 0, none⟩), .int .i64 100] w fun e w' => NumAns 100 q w e w') := fun q w h => n_any q 100 w h (by omega)
  have H4 : Hid (∀ q n w, Src w q → 0 ≤ n → n ≤ 1048576 → Calls Tryd.prog 66 #[.pointer (some ⟨q, 0, none⟩), .int .i64 n] w fun e w' => StrAns n q w e w') := fun q n w h h0 h1 => bytes_any q n w h h0 h1
  have HC : Hid (Code w w.heap.size a len) := hc
  clear hc
  go_enter Tryd.func16, Tryd.ntmps16
  go_wp2_with fail
  refine (H0.out _ HC.out).mono ?_
  rintro e w1 ⟨rfl, hs1, hb1⟩
  have HB1 : Hid (Src w1 w.heap.size ∧ Below w.heap.size w w1) := ⟨hs1, hb1⟩
  clear hs1 hb1 H0 HC
  go_wp2_with fail
  refine (H3.out _ _ HB1.out.1).mono ?_
  rintro e w2 ⟨v, rfl, hv0, hv1, hs2, hg2⟩
  have HB2 : Hid (Src w2 w.heap.size ∧ Below w.heap.size w w2) := ⟨hs2, below_of_grown HB1.out.2 hg2⟩
  clear hs2 hg2 HB1
  go_wp2_with fail
  refine (H4.out _ v _ HB2.out.1 hv0 (by omega)).mono ?_
  rintro e w3 ⟨s, rfl, hs, hs3, hg3⟩
  have HB3 : Hid (Src w3 w.heap.size ∧ Below w.heap.size w w3 ∧ (s.size : Int) ≤ 66) := ⟨hs3, below_of_grown HB2.out.2 hg3, by omega⟩
  clear hs3 hg3 HB2 hs hv0 hv1
  go_wp2_with fail
  refine (H1.out _ _ HB3.out.1).mono ?_
  rintro e w4 ⟨b, rfl, hs4, hg4⟩
  have HB4 : Hid (Src w4 w.heap.size ∧ Below w.heap.size w w4 ∧ (s.size : Int) ≤ 66) := ⟨hs4, below_of_grown HB3.out.2.1 hg4, HB3.out.2.2⟩
  clear hs4 hg4 HB3 H1
  cases b
  · go_wp2_with fail
    refine (H5.out _ _ HB4.out.1).mono ?_
    rintro e w5 ⟨u, rfl, hu0, hu1, hs5, hg5⟩
    have HB5 : Hid (Src w5 w.heap.size ∧ Below w.heap.size w w5) := ⟨hs5, below_of_grown HB4.out.2.1 hg5⟩
    clear hs5 hg5
    go_wp2_with fail
    refine (H4.out _ u _ HB5.out.1 hu0 (by omega)).mono ?_
    rintro e w6 ⟨t, rfl, ht, hs6, hg6⟩
    have HB6 : Hid (Below w.heap.size w w6 ∧ (t.size : Int) ≤ 100) := ⟨below_of_grown HB5.out.2 hg6, by omega⟩
    clear hs6 hg6 ht
    go_wp2
    go_ret2
    exact ⟨s, t, rfl, HB4.out.2.2, HB6.out.2, HB6.out.1⟩
  · go_wp2_with fail
    refine (H2.out _ _ HB4.out.1).mono ?_
    rintro e w5 ⟨v, rfl, hv0, hv1, hs5, hg5⟩
    have hb5 := below_of_grown HB4.out.2.1 hg5
    obtain ⟨m, rfl⟩ := Int.eq_ofNat_of_zero_le hv0
    obtain ⟨w6, hmk, hcv, hb6⟩ := make_zeros w5 (63 + m) (by omega)
    rw [show ((63 + m : Nat) : Int) = 63 + (m : Int) from by omega] at hmk
    have HB6 : Hid (Src w6 w.heap.size ∧ Below w.heap.size w w6) := ⟨hs5.below hb6 hs5.lt, hb5.trans (hb6.mono hb5.size)⟩
    have hz : ((⟨(List.replicate (63 + m) 0).toArray⟩ : ByteArray).size : Int) ≤ 66 := by simp [ByteArray.size]; omega
    have HZ : Hid (((⟨(List.replicate (63 + m) 0).toArray⟩ : ByteArray).size : Int) ≤ 66) := hz
    clear hb6 hb5 hs5 hg5 hz
    go_wp2_with fail
    refine (H5.out _ _ HB6.out.1).mono ?_
    rintro e w7 ⟨u, rfl, hu0, hu1, hs7, hg7⟩
    have HB7 : Hid (Src w7 w.heap.size ∧ Below w.heap.size w w7) := ⟨hs7, below_of_grown HB6.out.2 hg7⟩
    clear hs7 hg7 hmk hcv
    go_wp2_with fail
    refine (H4.out _ u _ HB7.out.1 hu0 (by omega)).mono ?_
    rintro e w8 ⟨t, rfl, ht, hs8, hg8⟩
    have HB8 : Hid (Below w.heap.size w w8 ∧ (t.size : Int) ≤ 100) := ⟨below_of_grown HB7.out.2 hg8, by omega⟩
    clear hs8 hg8 ht
    go_wp2
    go_ret2
    exact ⟨_, t, rfl, HZ.out, HB8.out.2, HB8.out.1⟩

theorem pick5 (x v : Int) (hx0 : -9223372036854775808 ≤ x) (hx1 : x ≤ 9223372036854775807) (h0 : 0 ≤ v) (h1 : v < 5) :
    ∃ y : Int, (#[.int .i64 0, .int .i64 1, .int .i64 100, .int .i64 101, .int .i64 x] : Array Value)[v.toNat]? = some (.int .i64 y) ∧ -9223372036854775808 ≤ y ∧ y ≤ 9223372036854775807 := by
  have : v = 0 ∨ v = 1 ∨ v = 2 ∨ v = 3 ∨ v = 4 := by omega
  rcases this with rfl | rfl | rfl | rfl | rfl
  · exact ⟨0, rfl, by omega, by omega⟩
  · exact ⟨1, rfl, by omega, by omega⟩
  · exact ⟨100, rfl, by omega, by omega⟩
  · exact ⟨101, rfl, by omega, by omega⟩
  · exact ⟨x, rfl, hx0, hx1⟩

/-- A text of at most m bytes and a number; of what was there nothing has turned. -/
def PassAns (m : Int) (w : World) (e : Ending) (w' : World) : Prop := ∃ (t : ByteArray) (n : Int), e = .returned (.tuple #[.string t, .int .i64 n]) ∧ (t.size : Int) ≤ m ∧ -9223372036854775808 ≤ n ∧ n ≤ 9223372036854775807 ∧ Below w.heap.size w w'

set_option maxHeartbeats 1000000 in
set_option maxRecDepth 10000 in
theorem drawStretch_any (a : Option Addr) (len cap : Nat) (w : World) (hc : Code w w.heap.size a len) (hl : len ≤ 1048576) :
    Calls Tryd.prog 21 #[.slice a len cap] w fun e w' => PassAns 9 w e w' := by
  have H0 : Hid (∀ w, Code w w.heap.size a len → Calls Tryd.prog 59 #[.slice a len cap] w fun e w' => PtrAns w e w') := fun w h => source_any a len cap w h hl
  have H1 : Hid (∀ q w, Src w q → Calls Tryd.prog 64 #[.pointer (some ⟨q, 0, none⟩), .int .i64 6] w fun e w' => BoolAns q w e w') := fun q w h => one_any q 6 w h (by omega)
  have H2 : Hid (∀ q w, Src w q → Calls Tryd.prog 65 #[.pointer (some ⟨q, 0, none⟩), .int .i64 9] w fun e w' => NumAns 9 q w e w') := fun q w h => n_any q 9 w h (by omega)
  have H3 : Hid (∀ q w, Src w q → Calls Tryd.prog 65 #[.pointer (some ⟨q, 0, none⟩), .int .i64 5] w fun e w' => NumAns 5 q w e w') := fun q w h => n_any q 5 w h (by omega)
  have H5 : Hid (∀ q w, Src w q → Calls Tryd.prog 71 #[.pointer (some ⟨q, 0, none⟩)] w fun e w' => AnyAns q w e w') := fun q w h => edge_any q w h
  have H4 : Hid (∀ q n w, Src w q → 0 ≤ n → n ≤ 1048576 → Calls Tryd.prog 66 #[.pointer (some ⟨q, 0, none⟩), .int .i64 n] w fun e w' => StrAns n q w e w') := fun q n w h h0 h1 => bytes_any q n w h h0 h1
  have HC : Hid (Code w w.heap.size a len) := hc
  clear hc
  go_enter Tryd.func21, Tryd.ntmps21
  go_wp2_with fail
  refine (H0.out _ HC.out).mono ?_
  rintro e w1 ⟨rfl, hs1, hb1⟩
  have HB1 : Hid (Src w1 w.heap.size ∧ Below w.heap.size w w1) := ⟨hs1, hb1⟩
  clear hs1 hb1 H0 HC
  go_wp2_with fail
  refine (H2.out _ _ HB1.out.1).mono ?_
  rintro e w2 ⟨v, rfl, hv0, hv1, hs2, hg2⟩
  have HB2 : Hid (Src w2 w.heap.size ∧ Below w.heap.size w w2) := ⟨hs2, below_of_grown HB1.out.2 hg2⟩
  clear hs2 hg2 HB1
  go_wp2_with fail
  refine (H4.out _ v _ HB2.out.1 hv0 (by omega)).mono ?_
  rintro e w3 ⟨s, rfl, hs, hs3, hg3⟩
  have HB3 : Hid (Src w3 w.heap.size ∧ Below w.heap.size w w3 ∧ (s.size : Int) ≤ 9) := ⟨hs3, below_of_grown HB2.out.2 hg3, by omega⟩
  clear hs3 hg3 HB2 hs hv0 hv1
  go_wp2_with fail
  refine (H1.out _ _ HB3.out.1).mono ?_
  rintro e w4 ⟨b, rfl, hs4, hg4⟩
  have HB4 : Hid (Src w4 w.heap.size ∧ Below w.heap.size w w4 ∧ (s.size : Int) ≤ 9) := ⟨hs4, below_of_grown HB3.out.2.1 hg4, HB3.out.2.2⟩
  clear hs4 hg4 HB3 H1
  cases b
  · go_wp2_with fail
    refine (H2.out _ _ HB4.out.1).mono ?_
    rintro e w5 ⟨u, rfl, hu0, hu1, hs5, hg5⟩
    have HB5 : Hid (Below w.heap.size w w5) := below_of_grown HB4.out.2.1 hg5
    clear hs5 hg5
    go_wp2
    go_ret2
    exact ⟨s, 1 + u, rfl, HB4.out.2.2, by omega, by omega, HB5.out⟩
  · go_wp2
    go_region_with (first | (go_at_call 71; refine (H5.out _ w4.drew (HB4.out.1)).mono ?_; rintro e w5 ⟨x, rfl, hx0, hx1, hs5, hg5⟩; have HB5 : Hid (Src w5 w.heap.size ∧ Below w.heap.size w w5) := ⟨hs5, below_of_grown HB4.out.2.1.drew hg5⟩; clear hs5 hg5) | (go_at_call 65; refine (H3.out _ _ (by first | exact HB5.out.1 | exact HB5.out.1.below ((Below.refl _ _).alloc (Nat.le_refl _) _) HB5.out.1.lt)).mono ?_; rintro e w6 ⟨v, rfl, hv0, hv1, hs6, hg6⟩; have hv5 : v < 5 := (by omega); obtain ⟨y, hy, hy0, hy1⟩ := pick5 x v hx0 hx1 hv0 hv5; first | (have hc := (edge_cell hg6 HB5.out.1.lt v.toNat).trans hy; have HB6 : Hid (Below w.heap.size w w6) := below_of_grown (HB5.out.2.alloc HB5.out.2.size _) hg6) | (have hc : (w6.alloc (.cells #[.int .i64 0, .int .i64 1, .int .i64 100, .int .i64 101, .int .i64 x] 2)).cell? ⟨w6.heap.size, v.toNat, none⟩ = some (.int .i64 y) := (by rw [cell_of_row _ _ _ _ _ _ (heap_alloc_new w6 _)]; exact hy); have HB6 : Hid (Below w.heap.size w w6) := below_of_grown HB5.out.2 hg6)))
    all_goals
      clear hs6 hg6 hc hy hv0 hv1 hv5
      go_wp2
      go_ret2
      exact ⟨s, y, rfl, HB4.out.2.2, hy0, hy1, by first | exact HB6.out | exact HB6.out.alloc HB6.out.size _⟩
end Go.Proofs.YtchlopmmhcobdaaDoor
