/-
  The law FnSeal's walk.
-/
import Derived.Test.YtbaodgjkplhmaaaSealed
import Derived.Test.YtbaodgjkplhmaaaDraw1
import Derived.Lib.ConvBytes
import Derived.Deep.RegionWith
import Derived.Laws.StructEq
namespace Go.Proofs.Ytbaodgjkplhmaaa
open Go.RowKit Go.Lib
set_option linter.unusedVariables false

theorem Code.later {w w' : World} {a : Option Addr} {len : Nat} (h : Code w w.heap.size a len) (hb : Below w.heap.size w w') : Code w' w'.heap.size a len := by
  rcases h with h | ⟨b, off, ha, hbq, hc⟩
  · exact .inl h
  · refine .inr ⟨b, off, ha, Nat.lt_of_lt_of_le hbq hb.size, fun i hi => ?_⟩
    obtain ⟨c, x0, x1, x2⟩ := hc i hi
    exact ⟨c, x0, x1, (hb.cell (p := ⟨b, off + i, none⟩) hbq).trans x2⟩

theorem Code.below {w w' : World} {q B : Nat} {a : Option Addr} {len : Nat} (h : Code w q a len) (hb : Below B w w') (hq : q ≤ B) : Code w' q a len := by
  rcases h with h | ⟨b, off, ha, hbq, hc⟩
  · exact .inl h
  · refine .inr ⟨b, off, ha, hbq, fun i hi => ?_⟩
    obtain ⟨c, x0, x1, x2⟩ := hc i hi
    exact ⟨c, x0, x1, (hb.cell (p := ⟨b, off + i, none⟩) (Nat.lt_of_lt_of_le hbq hq)).trans x2⟩

theorem to_bytes (w : World) (s : ByteArray) : ∃ wb cs cap, (convert 9 22 (.string s)).run Try.prog w = .ok (.slice (some ⟨w.heap.size, 0, none⟩) s.size cap) wb ∧
    wb.heap[w.heap.size]? = some (.cells cs 5 (cs.size, cs.size + 1)) ∧ s.size ≤ cs.size ∧ cs.toList.take s.size = byteCells s.data.toList ∧ Below w.heap.size w wb ∧ w.heap.size < wb.heap.size := by
  refine ⟨_, bytesCells w 5 s, _, Go.Lib.run_convert_string_bytes w 9 22 5 s Try.underlying9 Try.underlying22 Try.underlying5, bytesWorld_at_new w _ s, ?_, ?_, ?_, ?_⟩
  · simp [bytesCells]
  · have e : (bytesCells w 5 s).toList = byteCells s.data.toList ++ List.replicate (grownCap w s.size 0 5 - s.size) (.int .u8 0) := by simp [bytesCells, byteCells]
    rw [e, List.take_append_of_le_length (by simp [byteCells])]
    exact List.take_of_length_le (by simp [byteCells])
  · exact ⟨rfl, rfl, rfl, by rw [bytesWorld_size]; omega, fun k hk => bytesWorld_at_old w _ s k hk⟩
  · rw [bytesWorld_size]; omega

theorem flip_byte (c : UInt8) (v : Int) (h0 : 0 ≤ v) (h1 : v < 255) : ∃ d : UInt8, bits .xor .u8 (c.toNat : Int) (1 + v) = d.toNat ∧ d ≠ c := by
  have hc := c.toNat_lt
  have e := u8_xor (c.toNat : Int) (1 + v) (by omega) (by omega) (by omega) (by omega)
  rw [Int.toNat_natCast] at e
  have hx : c.toNat ^^^ (1 + v).toNat < 2 ^ 8 := Nat.xor_lt_two_pow (by omega) (by omega)
  refine ⟨UInt8.ofNat (c.toNat ^^^ (1 + v).toNat), ?_, fun h => ?_⟩
  · rw [e, UInt8.toNat_ofNat', Nat.mod_eq_of_lt (by omega)]
  · have h2 := congrArg UInt8.toNat h
    rw [UInt8.toNat_ofNat', Nat.mod_eq_of_lt (by omega)] at h2
    have h3 : c.toNat ^^^ (c.toNat ^^^ (1 + v).toNat) = c.toNat ^^^ c.toNat := by rw [h2]
    rw [← Nat.xor_assoc, Nat.xor_self, Nat.zero_xor] at h3
    omega

/-- The row with one byte turned, turned into a text. -/
theorem conv_set {w : World} {g n cap m : Nat} {l : List UInt8} {cs : Array Value} {t : TypeId} {fr : Nat × Nat} {d : UInt8} (hg : w.heap[g]? = some (.cells (cs.setIfInBounds m (.int .u8 (d.toNat : Int))) t fr)) (hcs : n ≤ cs.size) (hl : cs.toList.take n = byteCells l) (hn : l.length = n) :
    (convert 22 9 (.slice (some ⟨g, 0, none⟩) n cap)).run Try.prog w = .ok (.string ⟨(l.set m d).toArray⟩) w := by
  refine conv_text w g n cap (l.set m d) _ t fr hg ?_ (by simpa using hn)
  rw [Array.toList_setIfInBounds, List.take_set, hl]
  simp [byteCells, List.map_set]

theorem turned_code {t s : ByteArray} (h6 : t.size ≤ 19996) (hs : s = sealV t) {m : Nat} (hm : m < s.size) {c d : UInt8} (hc : c = s.data.toList.getD m 0) (hd : d ≠ c) : unC ⟨(s.data.toList.set m d).toArray⟩ = 5 := by
  rw [sealV_list h6] at hs
  subst hs
  have hm' : m < (t.data.toList ++ fourL (crcOf 0 t.data.toList)).length := by rw [mk_size] at hm; exact hm
  refine sealed_turned h6 m d hm' ?_
  have e : (t.data.toList ++ fourL (crcOf 0 t.data.toList)).getD m 0 = (t.data.toList ++ fourL (crcOf 0 t.data.toList))[m] := by
    rw [List.getD, List.getElem?_eq_getElem hm']; rfl
  rw [hc] at hd
  intro h
  exact hd (h.trans e.symm)

theorem crc_both {t u : ByteArray} (h : (t.size : Int) + (u.size : Int) ≤ 20000) : crcV (crcV 0 t) u = crcV 0 (t ++ u) := by
  have e1 : crcV 0 t = crcOf 0 t.data.toList := by unfold crcV; rw [if_neg (by omega)]
  have hb := crcOf_bd 0 t.data.toList
  rw [e1]
  unfold crcV
  rw [if_neg (by omega), if_neg (by rw [ByteArray.size_append]; omega), crcOf_more]
  simp [ByteArray.data_append]

theorem field_code (t : ByteArray) (w : World) : (Instr.field 27 (.agg #[.string t, .int .i64 0, .int .i64 5]) 2).run Try.prog w = .ok (.int .i64 5) w := by kernel_rfl

set_option maxHeartbeats 1000000 in
theorem fnSeal_main (a0 : Option Addr) (len0 cap0 : Nat) (a1 : Option Addr) (len1 cap1 : Nat) (w : World) (hc0 : Code w w.heap.size a0 len0) (hc1 : Code w w.heap.size a1 len1) (hl0 : len0 ≤ 1048576) (hl1 : len1 ≤ 1048576) :
    Calls Try.prog 3 #[.slice a0 len0 cap0, .slice a1 len1 cap1] w fun e w' => e = .returned (.bool true) ∧ Below w.heap.size w w' := by
  have H0 : Hid (Calls Try.prog 4 #[.slice a0 len0 cap0] w fun e w' => TextAns 19997 w e w') := drawSeal_any a0 len0 cap0 w hc0 hl0
  have HC1 : Hid (Code w w.heap.size a1 len1) := hc1
  have HD : Hid (∀ w', Below w.heap.size w w' → Calls Try.prog 9 #[.slice a1 len1 cap1] w' fun e w'' => CrcAns w' e w'') := fun w' hb => drawCrcMore_any a1 len1 cap1 w' (hc1.later hb) hl1
  clear hc0 hc1
  have hl0' : (len0 : Int) ≤ 1048576 := by omega
  have hl1' : (len1 : Int) ≤ 1048576 := by omega
  go_enter Try.func3, Try.ntmps3
  go_wp2_with fail
  refine H0.out.mono ?_
  rintro e w1 ⟨t, rfl, ht, hb1⟩
  have HB1 : Hid (Below w.heap.size w w1) := hb1
  have hts : t.size ≤ 1048576 := by omega
  have I := fun w => implSeal_any t w hts
  have S := fun w => specSeal_any t w hts
  by_cases h6 : t.size ≤ 19996
  · obtain ⟨hT, hC⟩ := sealed_back h6
    have hsz : (sealV t).size = t.size + 4 := by rw [sealV_list h6, mk_size]; simp [fourL_len]
    have hne : ((sealV t).toList == ([] : List UInt8)) = false := by
      rw [beq_eq_false_iff_ne, toList_data]; intro e; have := congrArg List.length e; simp at this; rw [this] at hsz; simp at hsz
    have U := fun w => implUnseal (sealV t) w (by omega)
    rw [hT, hC] at U
    unfold unOut at U
    obtain ⟨s, hs⟩ : ∃ s, s = sealV t := ⟨_, rfl⟩
    have HSV : Hid (s = sealV t) := hs
    rw [← hs] at I S hsz hne U
    have HI : Hid (∀ w, Calls Try.prog 5 #[.string t] w fun e w' => e = .returned (.string s) ∧ Below w.heap.size w w') := I
    have HS : Hid (∀ w, Calls Try.prog 6 #[.string t] w fun e w' => e = .returned (.string s) ∧ Below w.heap.size w w') := S
    have HU : Hid (∀ w, Calls Try.prog 8 #[.string s] w fun e w' => e = .returned (.agg #[.string t, .int .i64 0, .int .i64 0]) ∧ Below w.heap.size w w') := U
    clear I S U hT hC hs hb1 H0
    go_wp2_with fail
    refine (HI.out _).mono ?_
    rintro e w2 ⟨rfl, hb2⟩
    have HB2 : Hid (Below w.heap.size w w2) := HB1.out.trans (hb2.mono HB1.out.size)
    clear hb2 HB1
    go_wp2_with fail
    refine (HS.out _).mono ?_
    rintro e w3 ⟨rfl, hb3⟩
    have HB3 : Hid (Below w.heap.size w w3) := HB2.out.trans (hb3.mono HB2.out.size)
    clear hb3 HB2 HI HS
    obtain ⟨wb, cs, capb, hcv, hg, hcs, htk, hb4, hlt4⟩ := to_bytes w3 s
    have HB4 : Hid (Below w.heap.size w wb ∧ w.heap.size ≤ w3.heap.size) := ⟨HB3.out.trans (hb4.mono HB3.out.size), HB3.out.size⟩
    have HG : Hid (wb.heap[w3.heap.size]? = some (.cells cs 5 (cs.size, cs.size + 1)) ∧ s.size ≤ cs.size ∧ cs.toList.take s.size = byteCells s.data.toList) := ⟨hg, hcs, htk⟩
    have HSZ : Hid (s.size = t.size + 4) := hsz
    have hn0 : 4 ≤ (s.size : Int) := by omega
    have hn1 : (s.size : Int) ≤ 20000 := by omega
    clear hg hcs htk hb4 HB3 hsz
    have HL : Hid (∀ i : Int, 0 ≤ i → i ≤ 100 → ∀ most : Int, most ≤ 1048576 → ∀ w', Below w.heap.size w w' → Calls Try.prog 7 #[.slice a1 len1 cap1, .int .i64 i, .int .i64 most] w' fun e w'' => AtAns most w' e w'') := fun i h0 h1 most hm w' hb => lwAt_any a1 len1 cap1 i most w' w.heap.size (HC1.out.below hb (Nat.le_refl _)) hl1 h0 h1 hm
    go_wp2_with fail
    refine (HL.out 0 (by omega) (by omega) _ (by omega) _ HB4.out.1).mono ?_
    rintro e w4 ⟨m0, rfl, hm0, hm1, rfl⟩
    obtain ⟨m, rfl⟩ := Int.eq_ofNat_of_zero_le hm0
    have hmn : m < s.size := by omega
    have hmnI : (m : Int) < (s.size : Int) := by omega
    have hcell : w4.cell? ⟨w3.heap.size, m, none⟩ = some (.int .u8 (s.data.toList.getD m 0).toNat) := by
      obtain ⟨hg, hcs, htk⟩ := HG.out
      rw [cell_row hg]
      have e : (cs.toList.take s.size)[m]? = cs[m]? := by rw [List.getElem?_take]; simp [hmn]
      rw [← e, htk]
      have hml : m < s.data.size := hmn
      simp [byteCells, List.getD, Array.getElem?_eq_getElem hml]
    have hfr : w4.frozen? ⟨w3.heap.size, m, none⟩ = false := by
      obtain ⟨hg, hcs, htk⟩ := HG.out
      simp [World.frozen?, hg]
      omega
    obtain ⟨c, hcc⟩ : ∃ c, c = s.data.toList.getD m 0 := ⟨_, rfl⟩
    rw [← hcc] at hcell
    have HCC : Hid (c = s.data.toList.getD m 0) := hcc
    clear hcc hm0 hm1
    obtain ⟨hq0, hq1⟩ : (0 : Int) ≤ (c.toNat : Int) ∧ (c.toNat : Int) < 256 := by have := c.toNat_lt; omega
    obtain ⟨cI, hcI⟩ : ∃ cI : Int, cI = c.toNat := ⟨_, rfl⟩
    rw [← hcI] at hcell hq0 hq1
    have HCI : Hid (cI = c.toNat) := hcI
    clear hcI
    go_wp2_with fail
    go_region_with (go_at_call 7; refine (HL.out 1 (by omega) (by omega) 255 (by omega) _ ?_).mono ?_; exact HB4.out.1.drew; rintro e w5 ⟨v, rfl, hv0, hv1, rfl⟩)
    all_goals
      have hv2 : v < 255 := by omega
      obtain ⟨d, hd, hdc⟩ := flip_byte c v hv0 hv2
      rw [← HCI.out] at hd
      go_wp2_with fail
      rw [hd]
      obtain ⟨W5, hW5⟩ : ∃ W5, W5 = (w4.setCell ⟨w3.heap.size, m, none⟩ (.int .u8 (d.toNat : Int))).drew := ⟨_, rfl⟩
      rw [← hW5]
      have HG5 : Hid (W5.heap[w3.heap.size]? = some (.cells (cs.setIfInBounds m (.int .u8 (d.toNat : Int))) 5 (cs.size, cs.size + 1))) := by
        rw [hW5]; exact heap_set HG.out.1 _
      have HB5 : Hid (Below w.heap.size w W5) := by rw [hW5]; exact (HB4.out.1.setCell HB4.out.2 _).drew
      have HLT5 : Hid (w3.heap.size < W5.heap.size) := by
        have := HG5.out; exact (Array.getElem?_eq_some_iff.1 this).1
      have HDC : Hid (d ≠ c) := hdc
      clear hW5 hd hdc hcell hfr HB4 hlt4 hcv
      refine (HU.out _).mono ?_
      rintro e w6 ⟨rfl, hb6⟩
      have hg6 := (hb6.block w3.heap.size HLT5.out).trans HG5.out
      have hcv6 := conv_set (n := s.size) (cap := capb) hg6 HG.out.2.1 HG.out.2.2 (by simp)
      have HB6 : Hid (Below w.heap.size w w6) := HB5.out.trans (hb6.mono HB5.out.size)
      clear hg6 hb6 HB5 HG5 HLT5
      go_wp2_with fail
      have U5 := fun w => implUnseal ⟨(s.data.toList.set m d).toArray⟩ w (by rw [mk_size, List.length_set]; simp; omega)
      rw [turned_code h6 HSV.out hmn HCC.out HDC.out] at U5
      unfold unOut at U5
      generalize unT ⟨(s.data.toList.set m d).toArray⟩ = t5 at *
      have HU5 : Hid (∀ w, Calls Try.prog 8 #[.string ⟨(s.data.toList.set m d).toArray⟩] w fun e w' => e = .returned (.agg #[.string t5, .int .i64 0, .int .i64 5]) ∧ Below w.heap.size w w') := U5
      clear U5
      refine (HU5.out _).mono ?_
      rintro e w7 ⟨rfl, hb7⟩
      have HB7 : Hid (Below w.heap.size w w7) := HB6.out.trans (hb7.mono HB6.out.size)
      clear hb7 HB6 HU5 HU hcv6
      have hfld := field_code t5
      go_wp2_with fail
      refine (HD.out _ HB7.out).mono ?_
      rintro e w8 ⟨cc, u, rfl, hcc0, hcc1, hu, hb8⟩
      have HB8 : Hid (Below w.heap.size w w8) := HB7.out.trans (hb8.mono HB7.out.size)
      clear hb8 HB7
      by_cases hbig : 20000 < (t.size : Int) + (u.size : Int)
      · go_wp2
        go_ret
        exact ⟨rfl, HB8.out⟩
      have hus : u.size ≤ 1048576 := by omega
      have I1 := fun w => implCrcMore cc u w hus
      have S1 := fun w => specCrcMore cc u w hus
      have T1 := fun w => implCrc t w hts
      have M1 := fun w => implCrcMore (crcV 0 t) u w hus
      have A1 := fun w => implCrc (t ++ u) w (by rw [ByteArray.size_append]; omega)
      rw [← crc_both (by omega)] at A1
      generalize crcV (crcV 0 t) u = y at *
      generalize crcV 0 t = z at *
      generalize crcV cc u = x at *
      have HI1 : Hid (∀ w, Calls Try.prog 10 #[.int .i64 cc, .string u] w fun e w' => e = .returned (.int .i64 x) ∧ w' = w) := I1
      have HS1 : Hid (∀ w, Calls Try.prog 11 #[.int .i64 cc, .string u] w fun e w' => e = .returned (.int .i64 x) ∧ w' = w) := S1
      have HT1 : Hid (∀ w, Calls Try.prog 12 #[.string t] w fun e w' => e = .returned (.int .i64 z) ∧ w' = w) := T1
      have HM1 : Hid (∀ w, Calls Try.prog 10 #[.int .i64 z, .string u] w fun e w' => e = .returned (.int .i64 y) ∧ w' = w) := M1
      have HA1 : Hid (∀ w, Calls Try.prog 12 #[.string (t ++ u)] w fun e w' => e = .returned (.int .i64 y) ∧ w' = w) := A1
      clear I1 S1 T1 M1 A1
      go_wp2_with fail
      refine (HI1.out _).mono ?_
      rintro e w9 ⟨rfl, rfl⟩
      go_wp2_with fail
      refine (HS1.out _).mono ?_
      rintro e w9 ⟨rfl, rfl⟩
      go_wp2_with fail
      refine (HT1.out _).mono ?_
      rintro e w9 ⟨rfl, rfl⟩
      go_wp2_with fail
      refine (HM1.out _).mono ?_
      rintro e w9 ⟨rfl, rfl⟩
      go_wp2_with fail
      refine (HA1.out _).mono ?_
      rintro e w9 ⟨rfl, rfl⟩
      go_wp2
      go_ret
      exact ⟨rfl, HB8.out⟩
  · have hv : sealV t = ByteArray.empty := by unfold sealV; rw [if_pos (by omega)]
    rw [hv] at I S
    have HI : Hid (∀ w, Calls Try.prog 5 #[.string t] w fun e w' => e = .returned (.string ByteArray.empty) ∧ Below w.heap.size w w') := I
    have HS : Hid (∀ w, Calls Try.prog 6 #[.string t] w fun e w' => e = .returned (.string ByteArray.empty) ∧ Below w.heap.size w w') := S
    clear I S hb1 H0 hv
    go_wp2_with fail
    refine (HI.out _).mono ?_
    rintro e w2 ⟨rfl, hb2⟩
    have HB2 : Hid (Below w.heap.size w w2) := HB1.out.trans (hb2.mono HB1.out.size)
    clear hb2 HB1
    go_wp2_with fail
    refine (HS.out _).mono ?_
    rintro e w3 ⟨rfl, hb3⟩
    have HB3 : Hid (Below w.heap.size w w3) := HB2.out.trans (hb3.mono HB2.out.size)
    clear hb3 HB2 HI HS
    go_wp2_with fail
    refine (HD.out _ HB3.out).mono ?_
    rintro e w8 ⟨cc, u, rfl, hcc0, hcc1, hu, hb8⟩
    have HB8 : Hid (Below w.heap.size w w8) := HB3.out.trans (hb8.mono HB3.out.size)
    clear hb8 HB3
    by_cases hbig : 20000 < (t.size : Int) + (u.size : Int)
    · go_wp2
      go_ret
      exact ⟨rfl, HB8.out⟩
    have hus : u.size ≤ 1048576 := by omega
    have I1 := fun w => implCrcMore cc u w hus
    have S1 := fun w => specCrcMore cc u w hus
    have T1 := fun w => implCrc t w hts
    have M1 := fun w => implCrcMore (crcV 0 t) u w hus
    have A1 := fun w => implCrc (t ++ u) w (by rw [ByteArray.size_append]; omega)
    rw [← crc_both (by omega)] at A1
    generalize crcV (crcV 0 t) u = y at *
    generalize crcV 0 t = z at *
    generalize crcV cc u = x at *
    have HI1 : Hid (∀ w, Calls Try.prog 10 #[.int .i64 cc, .string u] w fun e w' => e = .returned (.int .i64 x) ∧ w' = w) := I1
    have HS1 : Hid (∀ w, Calls Try.prog 11 #[.int .i64 cc, .string u] w fun e w' => e = .returned (.int .i64 x) ∧ w' = w) := S1
    have HT1 : Hid (∀ w, Calls Try.prog 12 #[.string t] w fun e w' => e = .returned (.int .i64 z) ∧ w' = w) := T1
    have HM1 : Hid (∀ w, Calls Try.prog 10 #[.int .i64 z, .string u] w fun e w' => e = .returned (.int .i64 y) ∧ w' = w) := M1
    have HA1 : Hid (∀ w, Calls Try.prog 12 #[.string (t ++ u)] w fun e w' => e = .returned (.int .i64 y) ∧ w' = w) := A1
    clear I1 S1 T1 M1 A1
    go_wp2_with fail
    refine (HI1.out _).mono ?_
    rintro e w9 ⟨rfl, rfl⟩
    go_wp2_with fail
    refine (HS1.out _).mono ?_
    rintro e w9 ⟨rfl, rfl⟩
    go_wp2_with fail
    refine (HT1.out _).mono ?_
    rintro e w9 ⟨rfl, rfl⟩
    go_wp2_with fail
    refine (HM1.out _).mono ?_
    rintro e w9 ⟨rfl, rfl⟩
    go_wp2_with fail
    refine (HA1.out _).mono ?_
    rintro e w9 ⟨rfl, rfl⟩
    go_wp2
    go_ret
    exact ⟨rfl, HB8.out⟩

set_option maxHeartbeats 1000000 in
theorem fnSeal_any (a0 : Option Addr) (len0 cap0 : Nat) (a1 : Option Addr) (len1 cap1 : Nat) (w : World) (hc0 : Code w w.heap.size a0 len0 ∧ len0 ≤ maxLen) (hc1 : Code w w.heap.size a1 len1 ∧ len1 ≤ maxLen) :
    Calls Try.prog 3 #[.slice a0 len0 cap0, .slice a1 len1 cap1] w fun e w' => e = .returned (.bool true) ∧ Below w.heap.size w w' := by
  obtain ⟨hc0, hm0⟩ := hc0
  obtain ⟨hc1, hm1⟩ := hc1
  unfold maxLen at hm0 hm1
  by_cases h0 : 1048576 < (len0 : Int)
  · clear hc0 hc1
    go_enter Try.func3, Try.ntmps3
    go_wp2
    go_ret
    exact ⟨rfl, Below.refl _ _⟩
  by_cases h1 : 1048576 < (len1 : Int)
  · clear hc0 hc1
    go_enter Try.func3, Try.ntmps3
    go_wp2
    go_ret
    exact ⟨rfl, Below.refl _ _⟩
  exact fnSeal_main a0 len0 cap0 a1 len1 cap1 w hc0 hc1 (by omega) (by omega)
end Go.Proofs.Ytbaodgjkplhmaaa
