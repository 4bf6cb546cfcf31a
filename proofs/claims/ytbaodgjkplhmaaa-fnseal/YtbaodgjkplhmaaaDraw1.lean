/-
  Contracts of the draws of chapter 2: a text of at most 19997 bytes; a number and a text of at most 8 bytes. And the law's own lwAt.
-/
import Derived.Test.YtbaodgjkplhmaaaSource
import Derived.Test.YtbaodgjkplhmaaaCrc
namespace Go.Proofs.Ytbaodgjkplhmaaa
open Go.RowKit Go.Lib
set_option linter.unusedVariables false

/-- A number of int64; the source stays one, and nothing else has turned. -/
def AnyAns (q : Nat) (w : World) (e : Ending) (w' : World) : Prop := ∃ v : Int, e = .returned (.int .i64 v) ∧ -9223372036854775808 ≤ v ∧ v ≤ 9223372036854775807 ∧ Src w' q ∧ w.grownBy w' (some q)

theorem edge_cell {w w1 : World} {q : Nat} {cs : Array Value} {t : TypeId} (hg : (w.alloc (.cells cs t)).grownBy w1 (some q)) (hq : q < w.heap.size) (i : Nat) : w1.cell? ⟨w.heap.size, i, none⟩ = cs[i]? := by
  have h := (hg.block w.heap.size (by simp) (by simp; omega)).trans (MapKept.heap_alloc w _).1
  simp [World.cell?, h]

set_option maxHeartbeats 1000000 in
theorem edge_any (q : Nat) (w : World) (h : Src w q) :
    Calls Try.prog 21 #[.pointer (some ⟨q, 0, none⟩)] w fun e w' => AnyAns q w e w' := by
  have HN : Hid (∀ w, Src w q → Calls Try.prog 15 #[.pointer (some ⟨q, 0, none⟩), .int .i64 14] w fun e w' => NumAns 14 q w e w') := fun w h => n_any q 14 w h (by omega)
  have hlt := h.lt
  have HS : Hid (∀ o, Src (w.alloc o) q) := fun o => h.below ((Below.refl _ _).alloc (Nat.le_refl _) _) hlt
  clear h
  go_enter Try.func21, Try.ntmps21
  go_wp2_with fail
  refine (HN.out _ (HS.out _)).mono ?_
  rintro e w1 ⟨v, rfl, hv0, hv1, hs1, hg1⟩
  have hc := edge_cell hg1 hlt v.toNat
  have HS1 : Hid (Src w1 q ∧ w.grownBy w1 (some q)) := ⟨hs1, grown_trans (World.grownBy_alloc w _ _) hg1⟩
  clear hs1 hg1
  have hv2 : v = 0 ∨ v = 1 ∨ v = 2 ∨ v = 3 ∨ v = 4 ∨ v = 5 ∨ v = 6 ∨ v = 7 ∨ v = 8 ∨ v = 9 ∨ v = 10 ∨ v = 11 ∨ v = 12 ∨ v = 13 := by omega
  clear hv0 hv1
  rcases hv2 with rfl | rfl | rfl | rfl | rfl | rfl | rfl | rfl | rfl | rfl | rfl | rfl | rfl | rfl
  all_goals
    simp at hc
    go_wp2
    go_ret
    exact ⟨_, rfl, by omega, by omega, HS1.out.1, HS1.out.2⟩

theorem make_zeros (w : World) (n : Nat) (hn : n ≤ 1073741824) : ∃ w1, (Instr.makeSlice 22 (.int .i64 (n : Int)) (.int .i64 (n : Int))).run Try.prog w = .ok (.slice (some ⟨w.heap.size, 0, none⟩) n n) w1 ∧
    (convert 22 9 (.slice (some ⟨w.heap.size, 0, none⟩) n n)).run Try.prog w1 = .ok (.string ⟨(List.replicate n 0).toArray⟩) w1 ∧ Below w.heap.size w w1 := by
  obtain ⟨i0, hi, hz0, hz1, hz2⟩ := info_parts infoByte
  have h := run_make (P := Try.prog) w 22 5 i0 (.int .u8 0) Try.underlying22 hi hz0 .i64 .i64 n n (by omega) (by omega) (by rw [hz2]; omega) (by omega)
  simp only [Int.toNat_natCast] at h
  refine ⟨_, h, ?_, (Below.refl _ _).alloc (Nat.le_refl _) _⟩
  refine conv_text _ w.heap.size n n (List.replicate n 0) (madeCells (Value.int IntKind.u8 0).cells (n * i0.size)) _ _ (MapKept.heap_alloc w _).1 ?_ (by simp)
  have e : (madeCells (Value.int IntKind.u8 0).cells (n * i0.size)).toList = List.replicate n (.int .u8 0) := by
    rw [hz1, Nat.mul_one]; exact toList_madeCells_one _ _
  rw [e, List.take_of_length_le (by simp)]
  simp [byteCells]

/-- A text of at most m bytes; of what was there nothing has turned. -/
def TextAns (m : Int) (w : World) (e : Ending) (w' : World) : Prop := ∃ t : ByteArray, e = .returned (.string t) ∧ (t.size : Int) ≤ m ∧ Below w.heap.size w w'

theorem below_of_grown {w w1 w2 : World} (h : Below w.heap.size w w1) (hg : w1.grownBy w2 (some w.heap.size)) : Below w.heap.size w w2 :=
  h.trans ⟨hg.os, hg.tape, hg.output, hg.size, fun k hk => hg.block k (Nat.lt_of_lt_of_le hk h.size) (by simp; omega)⟩

set_option maxHeartbeats 1000000 in
theorem drawSeal_any (a : Option Addr) (len cap : Nat) (w : World) (hc : Code w w.heap.size a len) (hl : len ≤ 1048576) :
    Calls Try.prog 4 #[.slice a len cap] w fun e w' => TextAns 19997 w e w' := by
  have H0 : Hid (∀ w, Code w w.heap.size a len → Calls Try.prog 13 #[.slice a len cap] w fun e w' => PtrAns w e w') := fun w h => source_any a len cap w h hl
  have H1 : Hid (∀ q w, Src w q → Calls Try.prog 14 #[.pointer (some ⟨q, 0, none⟩), .int .i64 30] w fun e w' => BoolAns q w e w') := fun q w h => one_any q 30 w h (by omega)
  have H2 : Hid (∀ q w, Src w q → Calls Try.prog 15 #[.pointer (some ⟨q, 0, none⟩), .int .i64 3] w fun e w' => NumAns 3 q w e w') := fun q w h => n_any q 3 w h (by omega)
  have H3 : Hid (∀ q w, Src w q → Calls Try.prog 15 #[.pointer (some ⟨q, 0, none⟩), .int .i64 20] w fun e w' => NumAns 20 q w e w') := fun q w h => n_any q 20 w h (by omega)
  have H4 : Hid (∀ q n w, Src w q → 0 ≤ n → n ≤ 1048576 → Calls Try.prog 16 #[.pointer (some ⟨q, 0, none⟩), .int .i64 n] w fun e w' => StrAns n q w e w') := fun q n w h h0 h1 => bytes_any q n w h h0 h1
  have HC : Hid (Code w w.heap.size a len) := hc
  clear hc
  go_enter Try.func4, Try.ntmps4
  go_wp2_with fail
  refine (H0.out _ HC.out).mono ?_
  rintro e w1 ⟨rfl, hs1, hb1⟩
  have HB1 : Hid (Src w1 w.heap.size ∧ Below w.heap.size w w1) := ⟨hs1, hb1⟩
  clear hs1 hb1 H0 HC
  go_wp2_with fail
  refine (H1.out _ _ HB1.out.1).mono ?_
  rintro e w2 ⟨b, rfl, hs2, hg2⟩
  have HB2 : Hid (Src w2 w.heap.size ∧ Below w.heap.size w w2) := ⟨hs2, below_of_grown HB1.out.2 hg2⟩
  clear hs2 hg2 HB1 H1
  cases b
  · go_wp2_with fail
    refine (H3.out _ _ HB2.out.1).mono ?_
    rintro e w3 ⟨v, rfl, hv0, hv1, hs3, hg3⟩
    have HB3 : Hid (Src w3 w.heap.size ∧ Below w.heap.size w w3) := ⟨hs3, below_of_grown HB2.out.2 hg3⟩
    clear hs3 hg3 HB2
    go_wp2_with fail
    refine (H4.out _ v _ HB3.out.1 hv0 (by omega)).mono ?_
    rintro e w4 ⟨t, rfl, ht, hs4, hg4⟩
    have HB4 : Hid (Below w.heap.size w w4) := below_of_grown HB3.out.2 hg4
    clear hs4 hg4 HB3
    go_wp2
    go_ret
    exact ⟨t, rfl, by omega, HB4.out⟩
  · go_wp2_with fail
    refine (H2.out _ _ HB2.out.1).mono ?_
    rintro e w3 ⟨v, rfl, hv0, hv1, hs3, hg3⟩
    have HB3 : Hid (Below w.heap.size w w3) := below_of_grown HB2.out.2 hg3
    clear hs3 hg3 HB2
    obtain ⟨m, rfl⟩ := Int.eq_ofNat_of_zero_le hv0
    obtain ⟨w4, hmk, hcv, hb4⟩ := make_zeros w3 (19995 + m) (by omega)
    rw [show ((19995 + m : Nat) : Int) = 19995 + (m : Int) from by omega] at hmk
    have HB4 : Hid (Below w.heap.size w w4) := HB3.out.trans (hb4.mono HB3.out.size)
    clear hb4 HB3
    go_wp2
    go_ret
    exact ⟨_, rfl, by simp [ByteArray.size]; omega, HB4.out⟩

/-- A number of int64 and a text of at most 8 bytes. -/
def CrcAns (w : World) (e : Ending) (w' : World) : Prop := ∃ (c : Int) (t : ByteArray), e = .returned (.tuple #[.int .i64 c, .string t]) ∧ -9223372036854775808 ≤ c ∧ c ≤ 9223372036854775807 ∧ (t.size : Int) ≤ 8 ∧ Below w.heap.size w w'

set_option maxHeartbeats 1000000 in
theorem drawCrcMore_any (a : Option Addr) (len cap : Nat) (w : World) (hc : Code w w.heap.size a len) (hl : len ≤ 1048576) :
    Calls Try.prog 9 #[.slice a len cap] w fun e w' => CrcAns w e w' := by
  have H0 : Hid (∀ w, Code w w.heap.size a len → Calls Try.prog 13 #[.slice a len cap] w fun e w' => PtrAns w e w') := fun w h => source_any a len cap w h hl
  have H1 : Hid (∀ q w, Src w q → Calls Try.prog 14 #[.pointer (some ⟨q, 0, none⟩), .int .i64 5] w fun e w' => BoolAns q w e w') := fun q w h => one_any q 5 w h (by omega)
  have H3 : Hid (∀ q w, Src w q → Calls Try.prog 15 #[.pointer (some ⟨q, 0, none⟩), .int .i64 9] w fun e w' => NumAns 9 q w e w') := fun q w h => n_any q 9 w h (by omega)
  have H4 : Hid (∀ q n w, Src w q → 0 ≤ n → n ≤ 1048576 → Calls Try.prog 16 #[.pointer (some ⟨q, 0, none⟩), .int .i64 n] w fun e w' => StrAns n q w e w') := fun q n w h h0 h1 => bytes_any q n w h h0 h1
  have H5 : Hid (∀ q w, Src w q → Calls Try.prog 21 #[.pointer (some ⟨q, 0, none⟩)] w fun e w' => AnyAns q w e w') := fun q w h => edge_any q w h
  have HC : Hid (Code w w.heap.size a len) := hc
  clear hc
  go_enter Try.func9, Try.ntmps9
  go_wp2_with fail
  refine (H0.out _ HC.out).mono ?_
  rintro e w1 ⟨rfl, hs1, hb1⟩
  have HB1 : Hid (Src w1 w.heap.size ∧ Below w.heap.size w w1) := ⟨hs1, hb1⟩
  clear hs1 hb1 H0 HC
  go_wp2_with fail
  refine (H3.out _ _ HB1.out.1).mono ?_
  rintro e w2 ⟨v, rfl, hv0, hv1, hs2, hg2⟩
  have HB2 : Hid (Src w2 w.heap.size ∧ Below w.heap.size w w2) := ⟨hs2, below_of_grown HB1.out.2 hg2⟩
  clear hs2 hg2 HB1
  go_wp2_with fail
  refine (H4.out _ v _ HB2.out.1 hv0 (by omega)).mono ?_
  rintro e w3 ⟨t, rfl, ht, hs3, hg3⟩
  have HB3 : Hid (Src w3 w.heap.size ∧ Below w.heap.size w w3) := ⟨hs3, below_of_grown HB2.out.2 hg3⟩
  have HT : Hid ((t.size : Int) ≤ 8) := by show (t.size : Int) ≤ 8; omega
  clear hs3 hg3 HB2 ht hv0 hv1
  go_wp2_with fail
  refine (H1.out _ _ HB3.out.1).mono ?_
  rintro e w4 ⟨b, rfl, hs4, hg4⟩
  have HB4 : Hid (Src w4 w.heap.size ∧ Below w.heap.size w w4) := ⟨hs4, below_of_grown HB3.out.2 hg4⟩
  clear hs4 hg4 HB3
  cases b
  · go_wp2_with fail
    refine (H3.out _ _ HB4.out.1).mono ?_
    rintro e w5 ⟨v2, rfl, hv0, hv1, hs5, hg5⟩
    have HB5 : Hid (Src w5 w.heap.size ∧ Below w.heap.size w w5) := ⟨hs5, below_of_grown HB4.out.2 hg5⟩
    clear hs5 hg5 HB4
    go_wp2_with fail
    refine (H4.out _ v2 _ HB5.out.1 hv0 (by omega)).mono ?_
    rintro e w6 ⟨t2, rfl, ht2, hs6, hg6⟩
    have HB6 : Hid (Below w.heap.size w w6) := below_of_grown HB5.out.2 hg6
    clear hs6 hg6 HB5
    have hz : t2.size ≤ 1048576 := by omega
    obtain ⟨hq0, hq1⟩ := show 0 ≤ crcV 0 t2 ∧ crcV 0 t2 < 4294967296 by
      unfold crcV
      split
      · omega
      · exact crcOf_bd _ _
    go_wp2_with fail
    refine (specCrcTop t2 _ hz).mono ?_
    rintro e w7 ⟨rfl, rfl⟩
    go_wp2
    go_ret2
    exact ⟨_, t, rfl, by omega, by omega, HT.out, HB6.out⟩
  · go_wp2_with fail
    refine (H5.out _ _ HB4.out.1).mono ?_
    rintro e w5 ⟨v2, rfl, hv0, hv1, hs5, hg5⟩
    have HB5 : Hid (Below w.heap.size w w5) := below_of_grown HB4.out.2 hg5
    clear hs5 hg5 HB4
    go_wp2
    go_ret2
    exact ⟨_, t, rfl, hv0, hv1, HT.out, HB5.out⟩

/-- A number from 0 to below most (0 where there is none), the world as it was. -/
def AtAns (most : Int) (w : World) (e : Ending) (w' : World) : Prop := ∃ v : Int, e = .returned (.int .i64 v) ∧ 0 ≤ v ∧ (v < most ∨ v = 0) ∧ w' = w

set_option maxHeartbeats 1000000 in
theorem lwAt_any (a : Option Addr) (len cap : Nat) (i most : Int) (w : World) (q : Nat) (hc : Code w q a len) (hl : len ≤ 1048576) (hi0 : 0 ≤ i) (hi1 : i ≤ 100) (hm : most ≤ 1048576) :
    Calls Try.prog 7 #[.slice a len cap, .int .i64 i, .int .i64 most] w fun e w' => AtAns most w e w' := by
  by_cases h1 : most ≤ 1
  · go_enter Try.func7, Try.ntmps7
    go_wp2
    go_ret
    exact ⟨0, rfl, by omega, .inr rfl, rfl⟩
  by_cases h2 : len = 0
  · subst h2
    have h1' : ¬ most ≤ 1 := h1
    clear hc
    go_enter Try.func7, Try.ntmps7
    go_wp2
    go_ret
    exact ⟨0, rfl, by omega, .inr rfl, rfl⟩
  rcases hc with hc | ⟨b, off, rfl, _, hcells⟩
  · exact absurd hc h2
  have hr0 := Int.emod_nonneg i (show (len : Int) ≠ 0 by omega)
  have hr1 := Int.emod_lt_of_pos i (show 0 < (len : Int) by omega)
  obtain ⟨c, hc0, hc1, hcell⟩ := hcells (i % (len : Int)).toNat (by omega)
  have hlb : ((len : Int) == 0) = false := by simp; omega
  have hp0 := Int.emod_nonneg c (show most ≠ 0 by omega)
  have hp1 := Int.emod_lt_of_pos c (show 0 < most by omega)
  have HP : Hid (0 ≤ c % most ∧ c % most < most) := ⟨hp0, hp1⟩
  clear hcells hp0 hp1
  go_enter Try.func7, Try.ntmps7
  go_wp2
  go_ret
  exact ⟨c % most, rfl, HP.out.1, .inl HP.out.2, rfl⟩
end Go.Proofs.Ytbaodgjkplhmaaa
