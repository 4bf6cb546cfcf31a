/-
  The law FnNums's walk. Condition: package errors' own variable holds the handle of the type error.
-/
import Derived.Test.YtbaodgjkplhmaaaDoorNumsMore
import Derived.Test.YtbaodgjkplhmaaaDoorDraw0
import Derived.Laws.StructEq
import Derived.Laws.Concat
namespace Go.Proofs.YtbaodgjkplhmaaaDoor
open Go.RowKit Go.Lib
set_option linter.unusedVariables false

theorem num_field (w : World) : (Instr.field 26 (.agg #[.int .i64 0, .int .i64 0, .int .i64 4]) 2).run Tryd.prog w = .ok (.int .i64 4) w := by kernel_rfl
theorem text_field (w : World) : (Instr.field 31 (.agg #[.string ⟨#[]⟩, .int .i64 0, .int .i64 4]) 2).run Tryd.prog w = .ok (.int .i64 4) w := by kernel_rfl
theorem str_list (s : ByteArray) : s.toList = s.data.toList := by simp [ByteArray.toList_eq]
theorem Code.later {w w' : World} {a : Option Addr} {len : Nat} (h : Code w w.heap.size a len) (hb : Below w.heap.size w w') : Code w' w'.heap.size a len := by
  rcases h with h | ⟨b, off, ha, hbq, hc⟩
  · exact .inl h
  · refine .inr ⟨b, off, ha, Nat.lt_of_lt_of_le hbq hb.size, fun i hi => ?_⟩
    obtain ⟨c, x0, x1, x2⟩ := hc i hi
    exact ⟨c, x0, x1, (hb.cell (p := ⟨b, off + i, none⟩) hbq).trans x2⟩
theorem head_slice (s : ByteArray) (h : 1 ≤ s.size) (w : World) : (Instr.slice 9 (.string s) none (some (.int .i64 ((s.size : Int) - 1))) none).run Tryd.prog w = .ok (.string (s.extract 0 (s.size - 1))) w := by
  rw [run_slice_string_h w 9 s Tryd.underlying9 .i64 _ (by omega) (by omega)]
  rw [show ((s.size : Int) - 1).toNat = s.size - 1 by omega]

set_option maxHeartbeats 1000000 in
theorem fnNums_main (a0 : Option Addr) (len0 cap0 : Nat) (a1 : Option Addr) (len1 cap1 : Nat) (w : World) (hc0 : Code w w.heap.size a0 len0) (hc1 : Code w w.heap.size a1 len1) (hl0 : len0 ≤ 1048576) (hl1 : len1 ≤ 1048576) (hg : Handle w) :
    Calls Tryd.prog 3 #[.slice a0 len0 cap0, .slice a1 len1 cap1] w fun e w' => e = .returned (.bool true) ∧ Below w.heap.size w w' := by
  have H0 : Hid (Calls Tryd.prog 4 #[.slice a0 len0 cap0] w fun e w' => IntAns w e w') := drawPutNum_any a0 len0 cap0 w hc0 hl0
  have HT : Hid (∀ w', Below w.heap.size w w' → Calls Tryd.prog 8 #[.slice a1 len1 cap1] w' fun e w'' => TextAns 20001 w' e w'') := fun w' hb => drawPutText_any a1 len1 cap1 w' (hc1.later hb) hl1
  have HH : Hid (∀ w', Below w.heap.size w w' → Handle w') := fun w' hb => hg.below hb hg.lt
  clear hc0 hc1 hg
  have hl0' : (len0 : Int) ≤ 1048576 := by omega
  have hl1' : (len1 : Int) ≤ 1048576 := by omega
  go_enter Tryd.func3, Tryd.ntmps3
  go_wp2_with fail
  refine H0.out.mono ?_
  rintro e w1 ⟨n, rfl, hn0, hn1, hb1⟩
  have HB1 : Hid (Below w.heap.size w w1) := hb1
  have I1 := fun w => implPutNum_any n w hn0 hn1
  have S1 := fun w => specPutNum_any n w hn0 hn1
  have hpl := putNum_len hn0 hn1
  have hps := ba_size (putNum n)
  have G1 := fun w hg => implNum ((⟨#[120, 121]⟩ ++ (⟨(putNum n).toArray⟩ : ByteArray)) ++ ⟨#[122]⟩) 2 w (by rw [ByteArray.size_append, ByteArray.size_append, hps]; simp [ByteArray.size]; omega) (by omega) hg
  have G2 := fun w hg => implNum ((⟨(putNum n).toArray⟩ : ByteArray).extract 0 ((⟨(putNum n).toArray⟩ : ByteArray).size - 1)) 0 w (by simp; omega) (by omega) hg
  rw [nums_a hn0 hn1] at G1
  rw [nums_b hn0 hn1] at G2
  unfold numV at G1 G2
  have ht1 : 1 ≤ (⟨(putNum n).toArray⟩ : ByteArray).size := by omega
  have ht2 : (⟨(putNum n).toArray⟩ : ByteArray).size ≤ 10 := by omega
  clear hpl hps
  generalize (⟨(putNum n).toArray⟩ : ByteArray) = t at *
  have hsl := head_slice t ht1
  have ht1I : 1 ≤ (t.size : Int) := by omega
  have ht2I : (t.size : Int) ≤ 10 := by omega
  have HI1 : Hid (∀ w, Calls Tryd.prog 5 #[.int .i64 n] w fun e w' => e = .returned (.string t) ∧ Below w.heap.size w w') := I1
  have HS1 : Hid (∀ w, Calls Tryd.prog 6 #[.int .i64 n] w fun e w' => e = .returned (.string t) ∧ Below w.heap.size w w') := S1
  have HG1 : Hid (∀ w, Handle w → Calls Tryd.prog 7 #[.string ((⟨#[120, 121]⟩ ++ t) ++ ⟨#[122]⟩), .int .i64 2] w fun e w' => e = .returned (.agg #[.int .i64 n, .int .i64 ((t.size : Int) + 2), .int .i64 0]) ∧ Below w.heap.size w w') := G1
  have HG2 : Hid (∀ w, Handle w → Calls Tryd.prog 7 #[.string (t.extract 0 (t.size - 1)), .int .i64 0] w fun e w' => e = .returned (.agg #[.int .i64 0, .int .i64 0, .int .i64 4]) ∧ Below w.heap.size w w') := G2
  clear I1 S1 G1 G2 hb1 H0
  go_wp2_with fail
  refine (HI1.out _).mono ?_
  rintro e w2 ⟨rfl, hb2⟩
  have HB2 : Hid (Below w.heap.size w w2) := HB1.out.trans (hb2.mono HB1.out.size)
  clear hb2 HB1
  go_wp2_with fail
  refine (HS1.out _).mono ?_
  rintro e w3 ⟨rfl, hb3⟩
  have HB3 : Hid (Below w.heap.size w w3) := HB2.out.trans (hb3.mono HB2.out.size)
  clear hb3 HB2 HI1 HS1
  go_wp2_with fail
  refine (HG1.out _ (HH.out _ HB3.out)).mono ?_
  rintro e w4 ⟨rfl, hb4⟩
  have HB4 : Hid (Below w.heap.size w w4) := HB3.out.trans (hb4.mono HB3.out.size)
  clear hb4 HB3 HG1
  go_wp2_with fail
  have HB5 : Hid (Below w.heap.size w (w4.alloc (.cells #[.int .i64 n, .int .i64 ((t.size : Int) + 2), .int .i64 0] 26))) := HB4.out.alloc HB4.out.size _
  refine (HG2.out _ (HH.out _ HB5.out)).mono ?_
  rintro e w6 ⟨rfl, hb6⟩
  have HB6 : Hid (Below w.heap.size w w6) := HB5.out.trans (hb6.mono HB5.out.size)
  clear hb6 HB5 HB4 HG2
  have hfld := num_field
  go_wp2_with fail
  clear hfld
  refine (HT.out _ HB6.out).mono ?_
  rintro e w7 ⟨u, rfl, hu, hb7⟩
  have HB7 : Hid (Below w.heap.size w w7) := HB6.out.trans (hb7.mono HB6.out.size)
  clear hb7 HB6 HT
  have HI2 : Hid (∀ w, Calls Tryd.prog 9 #[.string u] w fun e w' => e = .returned (.string (putText u)) ∧ Below w.heap.size w w') := fun w => implPutText_any u w (by omega)
  have HS2 : Hid (∀ w, Calls Tryd.prog 10 #[.string u] w fun e w' => e = .returned (.string (putText u)) ∧ Below w.heap.size w w') := fun w => specPutText_any u w (by omega)
  go_wp2_with fail
  refine (HI2.out _).mono ?_
  rintro e w8 ⟨rfl, hb8⟩
  have HB8 : Hid (Below w.heap.size w w8) := HB7.out.trans (hb8.mono HB7.out.size)
  clear hb8 HB7
  go_wp2_with fail
  refine (HS2.out _).mono ?_
  rintro e w9 ⟨rfl, hb9⟩
  have HB9 : Hid (Below w.heap.size w w9) := HB8.out.trans (hb9.mono HB8.out.size)
  clear hb9 HB8
  by_cases hbig : 20000 < (u.size : Int)
  · have hp : putText u = ⟨#[]⟩ := by unfold putText; rw [if_pos hbig]
    rw [hp]
    go_wp2_with fail
    refine (HS2.out _).mono ?_
    rintro e w10 ⟨rfl, hb10⟩
    have HB10 : Hid (Below w.heap.size w w10) := HB9.out.trans (hb10.mono HB9.out.size)
    rw [hp]
    go_wp2
    go_ret
    exact ⟨rfl, HB10.out⟩
  · have hp : putText u = ⟨(putNum u.size).toArray⟩ ++ u := by unfold putText; rw [if_neg hbig]
    rw [hp]
    have hps := put_size (u := u)
    have hpl := putNum_len (n := u.size) (by omega) (by omega)
    have ta := fun h => texts_a (u := u) h
    have tb := texts_b (u := u) (by omega)
    clear HI2 HS2 hp
    generalize ((⟨(putNum u.size).toArray⟩ : ByteArray) ++ u) = p at *
    have hp1 : 1 ≤ p.size := by omega
    have hp2 : (p.size : Int) ≤ 20010 := by omega
    clear hps hpl
    have hp1I : 1 ≤ (p.size : Int) := by omega
    have hsl := head_slice p hp1
    have HA : Hid ((p.size : Int) + 1 ≤ 20000 → ∀ w, Handle w → Calls Tryd.prog 11 #[.string (⟨#[120]⟩ ++ p), .int .i64 1] w fun e w' => e = .returned (.agg #[.string u, .int .i64 ((p.size : Int) + 1), .int .i64 0]) ∧ Below w.heap.size w w') := by
      intro h w hg
      have := implText (⟨#[120]⟩ ++ p) 1 w (by rw [ByteArray.size_append, show (⟨#[120]⟩ : ByteArray).size = 1 from rfl]; omega) (by omega) hg
      rw [ta h] at this
      exact this
    have HB : Hid ((p.size : Int) + 1 ≤ 20000 → ∀ w, Handle w → Calls Tryd.prog 11 #[.string (p.extract 0 (p.size - 1)), .int .i64 0] w fun e w' => e = .returned (.agg #[.string ⟨#[]⟩, .int .i64 0, .int .i64 4]) ∧ Below w.heap.size w w') := by
      intro h w hg
      have := implText (p.extract 0 (p.size - 1)) 0 w (by simp; omega) (by omega) hg
      rcases tb with tb | tb
      · rw [tb] at this
        exact this
      · omega
    clear ta tb
    have hne : (p.toList == ([] : List UInt8)) = false := by
      rw [beq_eq_false_iff_ne, str_list]
      intro e
      have := congrArg List.length e
      simp at this
      rw [this] at hp1
      simp at hp1
    by_cases hlong : 20000 < (p.size : Int) + 1
    · clear hsl
      go_wp2
      go_ret
      exact ⟨rfl, HB9.out⟩
    have HA' : Hid (∀ w, Handle w → Calls Tryd.prog 11 #[.string (⟨#[120]⟩ ++ p), .int .i64 1] w fun e w' => e = .returned (.agg #[.string u, .int .i64 ((p.size : Int) + 1), .int .i64 0]) ∧ Below w.heap.size w w') := HA.out (by omega)
    have HB' : Hid (∀ w, Handle w → Calls Tryd.prog 11 #[.string (p.extract 0 (p.size - 1)), .int .i64 0] w fun e w' => e = .returned (.agg #[.string ⟨#[]⟩, .int .i64 0, .int .i64 4]) ∧ Below w.heap.size w w') := HB.out (by omega)
    have HL : Hid (p.size ≤ 19999) := (by omega : p.size ≤ 19999)
    have hw : wrap64 ((p.size : Int) + 1) = (p.size : Int) + 1 := by unfold wrap64; omega
    have hd : decide (20000 < (p.size : Int) + 1) = false := decide_eq_false hlong
    have hcat : ¬ 9223372036854775807 < 1 + p.size := by omega
    clear HA HB hlong hp2 hbig hu
    go_wp2_with fail
    refine (HA'.out _ (HH.out _ HB9.out)).mono ?_
    rintro e w10 ⟨rfl, hb10⟩
    have HB10 : Hid (Below w.heap.size w w10) := HB9.out.trans (hb10.mono HB9.out.size)
    clear hb10 HB9 HA'
    go_wp2_with fail
    refine (HB'.out _ (HH.out _ HB10.out)).mono ?_
    rintro e w11 ⟨rfl, hb11⟩
    have HB11 : Hid (Below w.heap.size w w11) := HB10.out.trans (hb11.mono HB10.out.size)
    clear hb11 HB10 HB'
    have hfld := text_field
    go_wp2
    go_ret
    exact ⟨rfl, HB11.out⟩

set_option maxHeartbeats 1000000 in
theorem fnNums_any (a0 : Option Addr) (len0 cap0 : Nat) (a1 : Option Addr) (len1 cap1 : Nat) (w : World) (hc0 : Code w w.heap.size a0 len0 ∧ len0 ≤ maxLen) (hc1 : Code w w.heap.size a1 len1 ∧ len1 ≤ maxLen) (hg : Handle w) :
    Calls Tryd.prog 3 #[.slice a0 len0 cap0, .slice a1 len1 cap1] w fun e w' => e = .returned (.bool true) ∧ Below w.heap.size w w' := by
  obtain ⟨hc0, hm0⟩ := hc0
  obtain ⟨hc1, hm1⟩ := hc1
  unfold maxLen at hm0 hm1
  by_cases h0 : 1048576 < (len0 : Int)
  · clear hc0 hc1
    go_enter Tryd.func3, Tryd.ntmps3
    go_wp2
    go_ret
    exact ⟨rfl, Below.refl _ _⟩
  by_cases h1 : 1048576 < (len1 : Int)
  · clear hc0 hc1
    go_enter Tryd.func3, Tryd.ntmps3
    go_wp2
    go_ret
    exact ⟨rfl, Below.refl _ _⟩
  exact fnNums_main a0 len0 cap0 a1 len1 cap1 w hc0 hc1 (by omega) (by omega) hg
end Go.Proofs.YtbaodgjkplhmaaaDoor
