/-
  The walks of Seal and Unseal, the document's and the program's: a text with the four bytes of its CRC behind it, made and taken apart.
-/
import Derived.Test.YtbaodgjkplhmaaaJoin
import Derived.Test.YtbaodgjkplhmaaaCrc
import Derived.Laws.Concat
namespace Go.Proofs.Ytbaodgjkplhmaaa
open Go.RowKit Go.Lib

/-- The four bytes of a number, the lowest first. -/
def fourL (n : Int) : List UInt8 := [UInt8.ofNat (n % 256).toNat, UInt8.ofNat (n / 256 % 256).toNat, UInt8.ofNat (n / 65536 % 256).toNat, UInt8.ofNat (n / 16777216 % 256).toNat]
def fourS (n : Int) : ByteArray := ⟨(fourL n).toArray⟩
theorem fourS_size (n : Int) : (fourS n).size = 4 := rfl

theorem ofNat_mod (n : Int) : (UInt8.ofNat (n % 256).toNat).toNat = n % 256 := by
  rw [UInt8.toNat_ofNat']
  omega

theorem conv_four (n : Int) (w : World) (h0 : 0 ≤ n) (h1 : n < 4294967296) :
    (convert 22 9 (.slice (some ⟨w.heap.size, 0, none⟩) 4 4)).run Try.prog (w.alloc (.cells #[.int .u8 (n % 256), .int .u8 (n / 256 % 256), .int .u8 (n / 65536 % 256), .int .u8 (n / 16777216)] 5)) =
      .ok (.string (fourS n)) (w.alloc (.cells #[.int .u8 (n % 256), .int .u8 (n / 256 % 256), .int .u8 (n / 65536 % 256), .int .u8 (n / 16777216)] 5)) := by
  refine conv_text _ w.heap.size 4 4 (fourL n) _ _ _ (MapKept.heap_alloc w _).1 ?_ rfl
  simp only [byteCells, fourL, List.map, ofNat_mod]
  rw [show n / 16777216 % 256 = n / 16777216 by omega]
  rfl

set_option maxHeartbeats 400000 in
theorem four_any (n : Int) (w : World) (h0 : 0 ≤ n) (h1 : n < 4294967296) :
    Calls Try.prog 19 #[.int .i64 n] w fun e w' => e = .returned (.string (fourS n)) ∧ Below w.heap.size w w' := by
  have hc := conv_four n w h0 h1
  go_enter Try.func19, Try.ntmps19
  go_wp2
  go_ret
  exact ⟨rfl, (Below.refl _ _).alloc (Nat.le_refl _) _⟩

theorem crcV_bd (crc : Int) (s : ByteArray) : 0 ≤ crcV crc s ∧ crcV crc s < 4294967296 := by
  unfold crcV
  split
  · omega
  · exact crcOf_bd _ _

set_option maxHeartbeats 400000 in
theorem sumOf_any (s : ByteArray) (w : World) (hs : s.size ≤ 1048576) :
    Calls Try.prog 18 #[.string s] w fun e w' => e = .returned (.string (fourS (crcV 0 s))) ∧ Below w.heap.size w w' := by
  obtain ⟨h0, h1⟩ := crcV_bd 0 s
  have E := fun w => implCrc s w hs
  generalize crcV 0 s = v at *
  have hc := conv_four v w h0 h1
  have HE : Hid (∀ w, Calls Try.prog 12 #[.string s] w fun e w' => e = .returned (.int .i64 v) ∧ w' = w) := E
  clear E
  go_enter Try.func18, Try.ntmps18
  go_wp2_with (go_at_call 12; refine (HE.out _).mono ?_; rintro e w' ⟨rfl, rfl⟩)
  go_ret
  exact ⟨rfl, (Below.refl _ _).alloc (Nat.le_refl _) _⟩

/-- What Seal answers. -/
def sealV (s : ByteArray) : ByteArray := if 19996 < (s.size : Int) then ByteArray.empty else s ++ fourS (crcOf 0 s.data.toList)

set_option maxHeartbeats 400000 in
theorem specSeal_any (s : ByteArray) (w : World) (hs : s.size ≤ 1048576) :
    Calls Try.prog 6 #[.string s] w fun e w' => e = .returned (.string (sealV s)) ∧ Below w.heap.size w w' := by
  unfold sealV
  by_cases h : 19996 < (s.size : Int)
  · rw [if_pos h]
    go_enter Try.func6, Try.ntmps6
    go_wp2
    go_ret
    exact ⟨rfl, Below.refl _ _⟩
  · rw [if_neg h]
    obtain ⟨h0, h1⟩ := crcOf_bd 0 s.data.toList
    have E := fun w => specCrc_any 0 s w hs (by omega) (by omega)
    generalize crcOf 0 s.data.toList = v at *
    have hz := fourS_size v
    have E2 := fun w => four_any v w h0 h1
    generalize fourS v = f at *
    have HE : Hid (∀ w, Calls Try.prog 20 #[.int .i64 0, .string s] w fun e w' => e = .returned (.int .i64 v) ∧ w' = w) := E
    have HE2 : Hid (∀ w, Calls Try.prog 19 #[.int .i64 v] w fun e w' => e = .returned (.string f) ∧ Below w.heap.size w w') := E2
    clear E E2
    have hz' : f.size ≤ 4 := by omega
    clear hz
    go_enter Try.func6, Try.ntmps6
    go_wp2_with fail
    refine (HE.out _).mono ?_
    rintro e w' ⟨rfl, rfl⟩
    go_wp2_with fail
    refine (HE2.out _).mono ?_
    rintro e w1 ⟨rfl, hb⟩
    go_wp2
    go_ret
    exact ⟨rfl, hb⟩

set_option maxHeartbeats 400000 in
theorem implSeal_any (s : ByteArray) (w : World) (hs : s.size ≤ 1048576) :
    Calls Try.prog 5 #[.string s] w fun e w' => e = .returned (.string (sealV s)) ∧ Below w.heap.size w w' := by
  unfold sealV
  by_cases h : 19996 < (s.size : Int)
  · rw [if_pos h]
    go_enter Try.func5, Try.ntmps5
    go_wp2
    go_ret
    exact ⟨rfl, Below.refl _ _⟩
  · rw [if_neg h]
    have E := fun w => sumOf_any s w hs
    have ev : crcV 0 s = crcOf 0 s.data.toList := by unfold crcV; rw [if_neg (by omega)]
    rw [ev] at E
    have hz := fourS_size (crcOf 0 s.data.toList)
    generalize fourS (crcOf 0 s.data.toList) = f at *
    have HE : Hid (∀ w, Calls Try.prog 18 #[.string s] w fun e w' => e = .returned (.string f) ∧ Below w.heap.size w w') := E
    clear E
    go_enter Try.func5, Try.ntmps5
    go_wp2_with fail
    refine (HE.out _).mono ?_
    rintro e w1 ⟨rfl, hb⟩
    go_wp2_with fail
    refine (joined_any s f _ hs (by omega)).mono ?_
    rintro e w2 ⟨rfl, hb2⟩
    go_wp2
    go_ret
    exact ⟨rfl, hb.trans (hb2.mono hb.size)⟩
end Go.Proofs.Ytbaodgjkplhmaaa
