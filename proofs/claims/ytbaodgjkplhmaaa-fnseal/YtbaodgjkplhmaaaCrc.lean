/-
  The walks of Crc and CrcMore, the document's and the program's: each answers the CRC, by one and the same function on integers.
-/
import Derived.Test.YtbaodgjkplhmaaaRows
import Derived.WalkKit
import Derived.WalkSpells
import Derived.Laws.BitsAllLaws
namespace Go.Proofs.Ytbaodgjkplhmaaa
open Go.RowKit

/-- One bit of the register. -/
def crcStep (r : Int) : Int := if bits .and .u32 r 1 == 1 then bits .xor .u32 (r / 2) 3988292384 else r / 2
/-- k bits. -/
def crcSteps : Nat → Int → Int
  | 0, r => r
  | k + 1, r => crcStep (crcSteps k r)
/-- The register over a row of bytes. -/
def crcL (r : Int) (l : List UInt8) : Int := l.foldl (fun r c => crcSteps 8 (bits .xor .u32 r (c.toNat : Int))) r
/-- The CRC that goes on from crc. -/
def crcOf (crc : Int) (l : List UInt8) : Int := bits .xor .u32 (crcL (bits .xor .u32 crc 4294967295) l) 4294967295

theorem bits_u32_bd (op : BinOp) (a b : Int) : 0 ≤ bits op .u32 a b ∧ bits op .u32 a b < 4294967296 := by
  unfold bits
  simp only [IntKind.wrap_u32']
  omega
theorem xor_u32_comm (a b : Int) : bits .xor .u32 a b = bits .xor .u32 b a := by
  show IntKind.u32.wrap ((BitVec.ofInt 32 a ^^^ BitVec.ofInt 32 b).toNat : Int) = IntKind.u32.wrap ((BitVec.ofInt 32 b ^^^ BitVec.ofInt 32 a).toNat : Int)
  rw [BitVec.xor_comm]
theorem crcStep_yes {r : Int} (h : (bits .and .u32 r 1 == 1) = true) : crcStep r = bits .xor .u32 (r / 2) 3988292384 := by unfold crcStep; rw [if_pos h]
theorem crcStep_no {r : Int} (h : (bits .and .u32 r 1 == 1) = false) : crcStep r = r / 2 := by unfold crcStep; rw [h]; rfl
theorem crcStep_bd {r : Int} (h0 : 0 ≤ r) (h1 : r < 4294967296) : 0 ≤ crcStep r ∧ crcStep r < 4294967296 := by
  unfold crcStep
  split
  · exact bits_u32_bd _ _ _
  · omega
theorem crcSteps_bd (k : Nat) {r : Int} (h0 : 0 ≤ r) (h1 : r < 4294967296) : 0 ≤ crcSteps k r ∧ crcSteps k r < 4294967296 := by
  induction k with
  | zero => exact ⟨h0, h1⟩
  | succ k ih => exact crcStep_bd ih.1 ih.2
theorem crcL_bd {r : Int} (h0 : 0 ≤ r) (h1 : r < 4294967296) (l : List UInt8) : 0 ≤ crcL r l ∧ crcL r l < 4294967296 := by
  induction l generalizing r with
  | nil => exact ⟨h0, h1⟩
  | cons c l ih =>
    have hb := bits_u32_bd .xor r (c.toNat : Int)
    have := crcSteps_bd 8 hb.1 hb.2
    exact ih this.1 this.2
theorem crcL_snoc (r : Int) (l : List UInt8) (c : UInt8) : crcL r (l ++ [c]) = crcSteps 8 (bits .xor .u32 (crcL r l) (c.toNat : Int)) := by
  simp [crcL, List.foldl_append]
theorem crcOf_bd (crc : Int) (l : List UInt8) : 0 ≤ crcOf crc l ∧ crcOf crc l < 4294967296 := bits_u32_bd _ _ _
theorem take_snoc (s : ByteArray) (k : Nat) (h : k < s.size) : s.data.toList.take (k + 1) = s.data.toList.take k ++ [s[k]] := by
  rw [List.take_succ_eq_append_getElem (by simpa using h)]; rfl
theorem ret_int {k : IntKind} {a b : Int} (h : a = b) : Ending.returned (.int k a) = .returned (.int k b) := by rw [h]

set_option maxHeartbeats 400000 in
theorem crcByte_any (r c : Int) (w : World) (hc0 : 0 ≤ c) (hc1 : c < 256) :
    Calls Try.prog 23 #[.int .u32 r, .int .u8 c] w fun e w' => e = .returned (.int .u32 (crcSteps 8 (bits .xor .u32 r c))) ∧ w' = w := by
  go_enter Try.func23, Try.ntmps23
  go_wp2
  go_loop [0, 5] (fun x i => ∃ k : Nat, k ≤ 8 ∧ i = .int .i64 k ∧ x = .int .u32 (crcSteps k (bits .xor .u32 r c))) (fun _ i => 8 - (intOf i).toNat)
  case atStart => exact ⟨0, by omega, rfl, rfl⟩
  case round =>
    obtain ⟨k, hk, rfl, rfl⟩ := hrel
    by_cases hlt : k < 8
    · cases hb : (bits .and .u32 (crcSteps k (bits .xor .u32 r c)) 1 == 1)
      · have HS : Hid (crcSteps (k + 1) (bits .xor .u32 r c) = crcSteps k (bits .xor .u32 r c) / 2) := crcStep_no hb
        go_wp2
        go_round
        case rel => exact ⟨k + 1, by omega, by go_num, by rw [HS.out]⟩
        case measure => simp [intOf]; omega
      · have HS : Hid (crcSteps (k + 1) (bits .xor .u32 r c) = bits .xor .u32 (crcSteps k (bits .xor .u32 r c) / 2) 3988292384) := crcStep_yes hb
        go_wp2
        go_round
        case rel => exact ⟨k + 1, by omega, by go_num, by rw [HS.out]⟩
        case measure => simp [intOf]; omega
    · obtain rfl : k = 8 := by omega
      go_wp2
      go_ret
      exact ⟨rfl, rfl⟩

set_option maxHeartbeats 1000000 in
theorem specCrc_any (crc : Int) (s : ByteArray) (w : World) (hs : s.size ≤ 1048576) (h1 : 0 ≤ crc) (h2 : crc < 4294967296) :
    Calls Try.prog 20 #[.int .i64 crc, .string s] w fun e w' => e = .returned (.int .i64 (crcOf crc s.data.toList)) ∧ w' = w := by
  go_enter Try.func20, Try.ntmps20
  go_wp2
  go_loop [5, 6] (fun x i => ∃ k : Nat, k ≤ s.size ∧ i = .int .i64 k ∧ x = .int .u32 (crcL (bits .xor .u32 crc 4294967295) (s.data.toList.take k))) (fun _ i => s.size - (intOf i).toNat)
  case atStart => exact ⟨0, by omega, rfl, rfl⟩
  case round =>
    obtain ⟨k, hk, rfl, rfl⟩ := hrel
    by_cases hlt : k < s.size
    · have HS : Hid (crcL (bits .xor .u32 crc 4294967295) (s.data.toList.take (k + 1)) = crcSteps 8 (bits .xor .u32 (crcL (bits .xor .u32 crc 4294967295) (s.data.toList.take k)) (s[k].toNat : Int))) := by rw [take_snoc s k hlt]; exact crcL_snoc _ _ _
      have hc : (s[k].toNat : Int) < 256 := by have := s[k].toNat_lt; omega
      generalize crcL (bits .xor .u32 crc 4294967295) (s.data.toList.take k) = r at *
      go_wp2
      clear hc
      generalize bits .xor .u32 r (s[k].toNat : Int) = x at *
      go_loop [5, 7] (fun y i => ∃ j : Nat, j ≤ 8 ∧ i = .int .i64 j ∧ y = .int .u32 (crcSteps j x)) (fun _ i => 8 - (intOf i).toNat)
      case atStart => exact ⟨0, by omega, rfl, rfl⟩
      case round =>
        obtain ⟨j, hj, rfl, rfl⟩ := hrel
        by_cases hj8 : j < 8
        · cases hb : (bits .and .u32 (crcSteps j x) 1 == 1)
          · have HT : Hid (crcSteps (j + 1) x = crcSteps j x / 2) := crcStep_no hb
            go_wp2
            go_round
            case rel => exact ⟨j + 1, by omega, by go_num, by rw [HT.out]⟩
            case measure => simp [intOf]; omega
          · have HT : Hid (crcSteps (j + 1) x = bits .xor .u32 (crcSteps j x / 2) 3988292384) := crcStep_yes hb
            go_wp2
            go_round
            case rel => exact ⟨j + 1, by omega, by go_num, by rw [HT.out]⟩
            case measure => simp [intOf]; omega
        · obtain rfl : j = 8 := by omega
          go_wp2
          go_round
          case rel => exact ⟨k + 1, by omega, by go_num, by rw [HS.out]⟩
          case measure => simp [intOf]; omega
    · obtain rfl : k = s.size := by omega
      have hb := bits_u32_bd .xor (crcL (bits .xor .u32 crc 4294967295) (s.data.toList.take s.size)) 4294967295
      obtain ⟨hb0, hb1⟩ := hb
      go_wp2
      go_ret
      exact ⟨ret_int (by unfold crcOf; rw [List.take_of_length_le (by simp)]), rfl⟩

set_option maxHeartbeats 1000000 in
theorem implCrcMore_any (crc : Int) (s : ByteArray) (w : World) (h : s.size ≤ 20000) (h1 : 0 ≤ crc) (h2 : crc < 4294967296) :
    Calls Try.prog 10 #[.int .i64 crc, .string s] w fun e w' => e = .returned (.int .i64 (crcOf crc s.data.toList)) ∧ w' = w := by
  have hm : IntKind.u32.max = 4294967295 := rfl
  go_enter Try.func10, Try.ntmps10
  go_wp2
  rw [xor_u32_comm 4294967295 crc]
  go_loop [5, 6] (fun x i => ∃ k : Nat, k ≤ s.size ∧ i = .int .i64 k ∧ x = .int .u32 (crcL (bits .xor .u32 crc 4294967295) (s.data.toList.take k))) (fun _ i => s.size - (intOf i).toNat)
  case atStart => exact ⟨0, by omega, rfl, rfl⟩
  case round =>
    obtain ⟨k, hk, rfl, rfl⟩ := hrel
    by_cases hlt : k < s.size
    · have HS : Hid (crcL (bits .xor .u32 crc 4294967295) (s.data.toList.take (k + 1)) = crcSteps 8 (bits .xor .u32 (crcL (bits .xor .u32 crc 4294967295) (s.data.toList.take k)) (s[k].toNat : Int))) := by rw [take_snoc s k hlt]; exact crcL_snoc _ _ _
      have hc : (s[k].toNat : Int) < 256 := by have := s[k].toNat_lt; omega
      generalize crcL (bits .xor .u32 crc 4294967295) (s.data.toList.take k) = r at *
      go_wp2_with (go_at_call 23; refine (crcByte_any _ _ _ (by omega) (by omega)).mono ?_; rintro e w' ⟨rfl, rfl⟩)
      go_round
      case rel => exact ⟨k + 1, by omega, by go_num, by rw [HS.out]⟩
      case measure => simp [intOf]; omega
    · obtain rfl : k = s.size := by omega
      have hb := bits_u32_bd .xor 4294967295 (crcL (bits .xor .u32 crc 4294967295) (s.data.toList.take s.size))
      obtain ⟨hb0, hb1⟩ := hb
      go_wp2
      go_ret
      exact ⟨ret_int (by unfold crcOf; rw [List.take_of_length_le (by simp), xor_u32_comm]), rfl⟩

theorem implCrcMore_no (crc : Int) (s : ByteArray) (w : World) (hs : s.size ≤ 1048576) (h : 20000 < (s.size : Int) ∨ crc < 0 ∨ 4294967295 < crc) :
    Calls Try.prog 10 #[.int .i64 crc, .string s] w fun e w' => e = .returned (.int .i64 0) ∧ w' = w := by
  by_cases a : 20000 < (s.size : Int)
  · go_enter Try.func10, Try.ntmps10
    go_wp2
    go_ret
    exact ⟨rfl, rfl⟩
  by_cases b : crc < 0
  · go_enter Try.func10, Try.ntmps10
    go_wp2
    go_ret
    exact ⟨rfl, rfl⟩
  have c : 4294967295 < crc := by omega
  clear h
  go_enter Try.func10, Try.ntmps10
  go_wp2
  go_ret
  exact ⟨rfl, rfl⟩

theorem specCrcMore_no (crc : Int) (s : ByteArray) (w : World) (hs : s.size ≤ 1048576) (h : 20000 < (s.size : Int) ∨ crc < 0 ∨ 4294967295 < crc) :
    Calls Try.prog 11 #[.int .i64 crc, .string s] w fun e w' => e = .returned (.int .i64 0) ∧ w' = w := by
  by_cases a : 20000 < (s.size : Int)
  · go_enter Try.func11, Try.ntmps11
    go_wp2
    go_ret
    exact ⟨rfl, rfl⟩
  by_cases b : crc < 0
  · go_enter Try.func11, Try.ntmps11
    go_wp2
    go_ret
    exact ⟨rfl, rfl⟩
  have c : 4294967295 < crc := by omega
  clear h
  go_enter Try.func11, Try.ntmps11
  go_wp2
  go_ret
  exact ⟨rfl, rfl⟩

theorem specCrcMore_any (crc : Int) (s : ByteArray) (w : World) (h : s.size ≤ 20000) (h1 : 0 ≤ crc) (h2 : crc < 4294967296) :
    Calls Try.prog 11 #[.int .i64 crc, .string s] w fun e w' => e = .returned (.int .i64 (crcOf crc s.data.toList)) ∧ w' = w := by
  go_enter Try.func11, Try.ntmps11
  go_wp2_with (go_at_call 20; refine (specCrc_any _ _ _ (by omega) (by omega) (by omega)).mono ?_; rintro e w' ⟨rfl, rfl⟩)
  go_ret
  exact ⟨rfl, rfl⟩

/-- What CrcMore answers. -/
def crcV (crc : Int) (s : ByteArray) : Int := if 20000 < (s.size : Int) ∨ crc < 0 ∨ 4294967295 < crc then 0 else crcOf crc s.data.toList

theorem implCrcMore (crc : Int) (s : ByteArray) (w : World) (hs : s.size ≤ 1048576) :
    Calls Try.prog 10 #[.int .i64 crc, .string s] w fun e w' => e = .returned (.int .i64 (crcV crc s)) ∧ w' = w := by
  unfold crcV
  by_cases h : 20000 < (s.size : Int) ∨ crc < 0 ∨ 4294967295 < crc
  · rw [if_pos h]; exact implCrcMore_no crc s w hs h
  · rw [if_neg h]; exact implCrcMore_any crc s w (by omega) (by omega) (by omega)
theorem specCrcMore (crc : Int) (s : ByteArray) (w : World) (hs : s.size ≤ 1048576) :
    Calls Try.prog 11 #[.int .i64 crc, .string s] w fun e w' => e = .returned (.int .i64 (crcV crc s)) ∧ w' = w := by
  unfold crcV
  by_cases h : 20000 < (s.size : Int) ∨ crc < 0 ∨ 4294967295 < crc
  · rw [if_pos h]; exact specCrcMore_no crc s w hs h
  · rw [if_neg h]; exact specCrcMore_any crc s w (by omega) (by omega) (by omega)

theorem implCrc (s : ByteArray) (w : World) (hs : s.size ≤ 1048576) :
    Calls Try.prog 12 #[.string s] w fun e w' => e = .returned (.int .i64 (crcV 0 s)) ∧ w' = w := by
  go_enter Try.func12, Try.ntmps12
  go_wp2_with (go_at_call 10; refine (implCrcMore _ _ _ hs).mono ?_; rintro e w' ⟨rfl, rfl⟩)
  go_ret
  exact ⟨rfl, rfl⟩
theorem specCrcTop (s : ByteArray) (w : World) (hs : s.size ≤ 1048576) :
    Calls Try.prog 22 #[.string s] w fun e w' => e = .returned (.int .i64 (crcV 0 s)) ∧ w' = w := by
  unfold crcV
  by_cases h : 20000 < (s.size : Int)
  · rw [if_pos (.inl h)]
    go_enter Try.func22, Try.ntmps22
    go_wp2
    go_ret
    exact ⟨rfl, rfl⟩
  · rw [if_neg (by omega)]
    go_enter Try.func22, Try.ntmps22
    go_wp2_with (go_at_call 20; refine (specCrc_any _ _ _ (by omega) (by omega) (by omega)).mono ?_; rintro e w' ⟨rfl, rfl⟩)
    go_ret
    exact ⟨rfl, rfl⟩
end Go.Proofs.Ytbaodgjkplhmaaa
