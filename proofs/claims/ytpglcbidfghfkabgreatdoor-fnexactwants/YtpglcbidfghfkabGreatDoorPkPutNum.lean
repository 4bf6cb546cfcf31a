/-
  The walks of PutNum, the document's and the program's: seven bits a byte, the lowest first.
-/
import Derived.Test.YtpglcbidfghfkabGreatDoorPkMem
import Derived.Test.YtpglcbidfghfkabGreatDoorPkHeadV
import Derived.Laws.BitsAllLaws
import Derived.Laws.Concat
namespace Go.Proofs.YtpglcbidfghfkabGreatDoor
open Go.RowKit Go.Lib
set_option linter.unusedVariables false

/-- The bytes of u, at most f + 1 of them. -/
def putN : Nat → Int → List UInt8
  | 0, x => [UInt8.ofNat x.toNat]
  | f + 1, x => if x < 128 then [UInt8.ofNat x.toNat] else UInt8.ofNat (x % 128 + 128).toNat :: putN f (x / 128)
/-- What n is ahead of cutting it into bytes. -/
def foldU (n : Int) : Int := if n < 0 then -2 * n - 1 else 2 * n
def putNum (n : Int) : List UInt8 := putN 10 (foldU n)
/-- 128 to the f. -/
def cap7 : Nat → Int
  | 0 => 1
  | f + 1 => 128 * cap7 f

theorem putN_last (f : Nat) {x : Int} (h : x < 128) : putN f x = [UInt8.ofNat x.toNat] := by
  cases f with
  | zero => rfl
  | succ f => simp [putN, h]
theorem putN_more {f : Nat} {x : Int} (h : 128 ≤ x) (hc : x < cap7 f) : ∃ g, f = g + 1 ∧ putN f x = UInt8.ofNat (x % 128 + 128).toNat :: putN g (x / 128) ∧ x / 128 < cap7 g := by
  cases f with
  | zero => simp [cap7] at hc; omega
  | succ f =>
    refine ⟨f, rfl, ?_, ?_⟩
    · simp only [putN]; rw [if_neg (by omega)]
    · simp only [cap7] at hc; omega
theorem cap7_10 : cap7 10 = 1180591620717411303424 := by simp [cap7]

theorem more_byte (x : Int) : (UInt8.ofNat (x % 128 + 128).toNat).toNat = x % 128 + 128 := by
  rw [UInt8.toNat_ofNat']
  omega
theorem last_byte {x : Int} (h0 : 0 ≤ x) (h : x < 128) : (UInt8.ofNat x.toNat).toNat = x := by
  rw [UInt8.toNat_ofNat']
  omega
set_option maxRecDepth 100000 in
theorem or_128 : ∀ k, k < 256 → k ||| 128 = k % 128 + 128 := by decide
theorem or_u8_128 (x : Int) : bits .or .u8 (x % 256) 128 = x % 128 + 128 := by
  have h := u8_or (x % 256) 128 (by omega) (by omega) (by omega) (by omega)
  rw [h, show (128 : Int).toNat = 128 from rfl, or_128 _ (by omega)]
  omega

set_option maxHeartbeats 400000 in
theorem fold_any (n : Int) (w : World) (h0 : -9223372036854775808 ≤ n) (h1 : n ≤ 9223372036854775807) :
    Calls Tryz.prog 137 #[.int .i64 n] w fun e w' => e = .returned (.int .u64 (foldU n)) ∧ w' = w := by
  by_cases h : n < 0
  · have e : foldU n = -2 * n - 1 := by unfold foldU; rw [if_pos h]
    rw [e]
    go_enter Tryz.func137, Tryz.ntmps137
    go_wp2
    go_ret
    refine ⟨congrArg (fun z => Ending.returned (.int .u64 z)) ?_, rfl⟩
    omega
  · have e : foldU n = 2 * n := by unfold foldU; rw [if_neg h]
    rw [e]
    go_enter Tryz.func137, Tryz.ntmps137
    go_wp2
    go_ret
    refine ⟨congrArg (fun z => Ending.returned (.int .u64 z)) ?_, rfl⟩
    omega

set_option maxHeartbeats 1000000 in
theorem specPutNum_any (n : Int) (w : World) (h0 : -9223372036854775808 ≤ n) (h1 : n ≤ 9223372036854775807) :
    Calls Tryz.prog 120 #[.int .i64 n] w fun e w' => e = .returned (.string ⟨(putNum n).toArray⟩) ∧ Below w.heap.size w w' := by
  have E := fun w => fold_any n w h0 h1
  unfold putNum
  have hx : 0 ≤ foldU n ∧ foldU n < 18446744073709551616 := by unfold foldU; split <;> omega
  generalize foldU n = x0 at *
  have HE : Hid (∀ w, Calls Tryz.prog 137 #[.int .i64 n] w fun e w' => e = .returned (.int .u64 x0) ∧ w' = w) := E
  clear E
  obtain ⟨hx0, hx1⟩ := hx
  obtain ⟨T, hT⟩ : ∃ T, T = putN 10 x0 := ⟨_, rfl⟩
  rw [← hT]
  have HT : Hid (T = putN 10 x0) := hT
  clear hT
  go_enter Tryz.func120, Tryz.ntmps120
  go_wp2_with fail
  refine (HE.out _).mono ?_
  rintro e w0 ⟨rfl, rfl⟩
  go_wp2
  go_loopw [3, 4] (fun u v wr => ∃ (f : Nat) (x : Int) (l : List UInt8), u = .int .u64 x ∧ 0 ≤ x ∧ x < 18446744073709551616 ∧ x < cap7 f ∧ l.length + f = 10 ∧ l ++ putN f x = T ∧ OwnB wr w0.heap.size v l ∧ Below w0.heap.size w0 wr)
    (fun u _ _ => (intOf u).toNat)
  case atStart => exact ⟨10, x0, [], rfl, hx0, hx1, by rw [cap7_10]; omega, rfl, HT.out.symm, OwnB.made _ _ (Nat.le_refl _), (Below.refl _ _).alloc (Nat.le_refl _) _⟩
  case round =>
    obtain ⟨f, x, l, rfl, hp0, hp1, hcap, hlen, hput, hown, hbel⟩ := hrel
    have hsz := hbel.size
    have hll : l.length ≤ 1073741824 := by omega
    by_cases hge : 128 ≤ x
    · obtain ⟨g, rfl, hpu, hcg⟩ := putN_more hge hcap
      have HP : Hid ((l ++ [UInt8.ofNat (x % 128 + 128).toNat]) ++ putN g (x / 128) = T) := by show _ = _; rw [← hput, hpu]; simp
      have HY : Hid (x % 128 + 128 = (UInt8.ofNat (x % 128 + 128).toNat).toNat) := (more_byte x).symm
      have HC : Hid (x / 128 < cap7 g) := hcg
      clear hpu hput hcap hcg
      go_wp2_with (at_builtin; go_must (refine wp_app_byte rfl (.tmp 10) (.tmp 15) rfl w0.heap.size _ l rfl hown (UInt8.ofNat (x % 128 + 128).toNat) (x % 128 + 128) HY.out rfl hll hsz ?_); intro v1 w1 hown1 hb1)
      go_roundw
      case rel => exact ⟨g, x / 128, _, rfl, by omega, by omega, HC.out, by simp; omega, HP.out, hown1, hbel.trans hb1⟩
      case measure => simp [intOf]; omega
    · have HP : Hid (l ++ [UInt8.ofNat x.toNat] = T) := by show _ = _; rw [← hput, putN_last f (by omega)]
      have hb := (last_byte hp0 (by omega)).symm
      have HY : Hid (x = (UInt8.ofNat x.toNat).toNat) := hb
      clear hput hcap hb
      go_wp2_with (at_builtin; go_must (refine wp_app_byte rfl (.tmp 19) (.tmp 22) rfl w0.heap.size _ l rfl hown (UInt8.ofNat x.toNat) x HY.out rfl hll hsz ?_); intro v1 w1 hown1 hb1; have hcv := own_conv hown1)
      go_ret
      exact ⟨ret_str (by rw [HP.out]), hbel.trans hb1⟩

theorem not_u64 (y : Int) (h0 : 0 ≤ y) (h1 : y < 18446744073709551616) : bits .xor .u64 IntKind.u64.max y = 18446744073709551615 - y := by
  obtain ⟨k, rfl⟩ := Int.eq_ofNat_of_zero_le h0
  show IntKind.u64.wrap ((BitVec.ofInt 64 IntKind.u64.max ^^^ BitVec.ofInt 64 (k : Int)).toNat : Int) = _
  have e : BitVec.ofInt 64 IntKind.u64.max = BitVec.allOnes 64 := by decide
  rw [e, BitVec.allOnes_xor, BitVec.toNat_not, ofInt_u64 k (by omega), IntKind.wrap_u64]
  omega
theorem fold_neg {n : Int} (h : n < 0) (h0 : -9223372036854775808 ≤ n) : bits .xor .u64 IntKind.u64.max (IntKind.u64.wrap (IntKind.u64.wrap n * 2)) = foldU n := by
  unfold foldU
  rw [if_pos h, IntKind.wrap_u64, IntKind.wrap_u64, not_u64 _ (by omega) (by omega)]
  omega
theorem fold_pos {n : Int} (h : ¬ n < 0) : n * 2 = foldU n := by
  unfold foldU
  rw [if_neg h]
  omega

set_option maxHeartbeats 1000000 in
theorem implPutNum_any (n : Int) (w : World) (h0 : -9223372036854775808 ≤ n) (h1 : n ≤ 9223372036854775807) :
    Calls Tryz.prog 167 #[.int .i64 n] w fun e w' => e = .returned (.string ⟨(putNum n).toArray⟩) ∧ Below w.heap.size w w' := by
  unfold putNum
  have hx : 0 ≤ foldU n ∧ foldU n < 18446744073709551616 := by unfold foldU; split <;> omega
  obtain ⟨T, hT⟩ : ∃ T, T = putN 10 (foldU n) := ⟨_, rfl⟩
  rw [← hT]
  have HT : Hid (T = putN 10 (foldU n)) := hT
  clear hT
  obtain ⟨x0, hX⟩ : ∃ x0, x0 = foldU n := ⟨_, rfl⟩
  rw [← hX] at hx HT
  obtain ⟨hx0, hx1⟩ := hx
  by_cases h : n < 0
  · have HX : Hid (bits .xor .u64 IntKind.u64.max (IntKind.u64.wrap (IntKind.u64.wrap n * 2)) = x0) := (fold_neg h h0).trans hX.symm
    clear hX
    go_enter Tryz.func167, Tryz.ntmps167
    go_wp2
    rw [HX.out]
    go_loopw [3, 4] (fun u v wr => ∃ (f : Nat) (x : Int) (l : List UInt8), u = .int .u64 x ∧ 0 ≤ x ∧ x < 18446744073709551616 ∧ x < cap7 f ∧ l.length + f = 10 ∧ l ++ putN f x = T ∧ OwnB wr w.heap.size v l ∧ Below w.heap.size w wr)
      (fun u _ _ => (intOf u).toNat)
    case atStart => exact ⟨10, x0, [], rfl, hx0, hx1, by rw [cap7_10]; omega, rfl, HT.out.symm, OwnB.nil _ _, Below.refl _ _⟩
    case round =>
      obtain ⟨f, x, l, rfl, hp0, hp1, hcap, hlen, hput, hown, hbel⟩ := hrel
      have hsz := hbel.size
      have hll : l.length ≤ 1073741824 := by omega
      by_cases hge : 128 ≤ x
      · obtain ⟨g, rfl, hpu, hcg⟩ := putN_more hge hcap
        have HP : Hid ((l ++ [UInt8.ofNat (x % 128 + 128).toNat]) ++ putN g (x / 128) = T) := by show _ = _; rw [← hput, hpu]; simp
        have HY : Hid (bits .or .u8 (x % 256) 128 = (UInt8.ofNat (x % 128 + 128).toNat).toNat) := (or_u8_128 x).trans (more_byte x).symm
        have HC : Hid (x / 128 < cap7 g) := hcg
        clear hpu hput hcap hcg
        go_wp2_with (at_builtin; go_must (refine wp_app_byte rfl (.tmp 14) (.tmp 18) rfl w.heap.size _ l rfl hown (UInt8.ofNat (x % 128 + 128).toNat) (bits .or .u8 (x % 256) 128) HY.out rfl hll hsz ?_); intro v1 w1 hown1 hb1)
        go_roundw
        case rel => exact ⟨g, x / 128, _, rfl, by omega, by omega, HC.out, by simp; omega, HP.out, hown1, hbel.trans hb1⟩
        case measure => simp [intOf]; omega
      · have HP : Hid (l ++ [UInt8.ofNat x.toNat] = T) := by show _ = _; rw [← hput, putN_last f (by omega)]
        have hb := (last_byte hp0 (by omega)).symm
        have HY : Hid (x = (UInt8.ofNat x.toNat).toNat) := hb
        clear hput hcap hb
        go_wp2_with (at_builtin; go_must (refine wp_app_byte rfl (.tmp 22) (.tmp 25) rfl w.heap.size _ l rfl hown (UInt8.ofNat x.toNat) x HY.out rfl hll hsz ?_); intro v1 w1 hown1 hb1; have hcv := own_conv hown1)
        go_ret
        exact ⟨ret_str (by rw [HP.out]), hbel.trans hb1⟩
  · have HX : Hid (n * 2 = x0) := (fold_pos h).trans hX.symm
    clear hX
    go_enter Tryz.func167, Tryz.ntmps167
    go_wp2
    rw [HX.out]
    go_loopw [3, 4] (fun u v wr => ∃ (f : Nat) (x : Int) (l : List UInt8), u = .int .u64 x ∧ 0 ≤ x ∧ x < 18446744073709551616 ∧ x < cap7 f ∧ l.length + f = 10 ∧ l ++ putN f x = T ∧ OwnB wr w.heap.size v l ∧ Below w.heap.size w wr)
      (fun u _ _ => (intOf u).toNat)
    case atStart => exact ⟨10, x0, [], rfl, hx0, hx1, by rw [cap7_10]; omega, rfl, HT.out.symm, OwnB.nil _ _, Below.refl _ _⟩
    case round =>
      obtain ⟨f, x, l, rfl, hp0, hp1, hcap, hlen, hput, hown, hbel⟩ := hrel
      have hsz := hbel.size
      have hll : l.length ≤ 1073741824 := by omega
      by_cases hge : 128 ≤ x
      · obtain ⟨g, rfl, hpu, hcg⟩ := putN_more hge hcap
        have HP : Hid ((l ++ [UInt8.ofNat (x % 128 + 128).toNat]) ++ putN g (x / 128) = T) := by show _ = _; rw [← hput, hpu]; simp
        have HY : Hid (bits .or .u8 (x % 256) 128 = (UInt8.ofNat (x % 128 + 128).toNat).toNat) := (or_u8_128 x).trans (more_byte x).symm
        have HC : Hid (x / 128 < cap7 g) := hcg
        clear hpu hput hcap hcg
        go_wp2_with (at_builtin; go_must (refine wp_app_byte rfl (.tmp 14) (.tmp 18) rfl w.heap.size _ l rfl hown (UInt8.ofNat (x % 128 + 128).toNat) (bits .or .u8 (x % 256) 128) HY.out rfl hll hsz ?_); intro v1 w1 hown1 hb1)
        go_roundw
        case rel => exact ⟨g, x / 128, _, rfl, by omega, by omega, HC.out, by simp; omega, HP.out, hown1, hbel.trans hb1⟩
        case measure => simp [intOf]; omega
      · have HP : Hid (l ++ [UInt8.ofNat x.toNat] = T) := by show _ = _; rw [← hput, putN_last f (by omega)]
        have hb := (last_byte hp0 (by omega)).symm
        have HY : Hid (x = (UInt8.ofNat x.toNat).toNat) := hb
        clear hput hcap hb
        go_wp2_with (at_builtin; go_must (refine wp_app_byte rfl (.tmp 22) (.tmp 25) rfl w.heap.size _ l rfl hown (UInt8.ofNat x.toNat) x HY.out rfl hll hsz ?_); intro v1 w1 hown1 hb1; have hcv := own_conv hown1)
        go_ret
        exact ⟨ret_str (by rw [HP.out]), hbel.trans hb1⟩
end Go.Proofs.YtpglcbidfghfkabGreatDoor

/-
  The walks of PutText, the document's and the program's: the text's length as PutNum has it, and the text behind it.
-/
namespace Go.Proofs.YtpglcbidfghfkabGreatDoor
open Go.RowKit Go.Lib
set_option linter.unusedVariables false

theorem putN_len (f : Nat) : ∀ x : Int, (putN f x).length ≤ f + 1 := by
  induction f with
  | zero => intro x; simp [putN]
  | succ f ih =>
    intro x
    simp only [putN]
    split
    · simp
    · have := ih (x / 128); simp; omega

theorem putNum_size (n : Int) : (⟨(putNum n).toArray⟩ : ByteArray).size ≤ 11 := by
  have h := putN_len 10 (foldU n)
  show (putNum n).toArray.size ≤ 11
  unfold putNum
  rw [List.size_toArray]
  exact h

/-- What PutText answers. -/
def putText (s : ByteArray) : ByteArray := if 20000 < (s.size : Int) then ⟨#[]⟩ else ⟨(putNum s.size).toArray⟩ ++ s

set_option maxHeartbeats 400000 in
theorem specPutText_any (s : ByteArray) (w : World) (hs : s.size ≤ 1048576) :
    Calls Tryz.prog 119 #[.string s] w fun e w' => e = .returned (.string (putText s)) ∧ Below w.heap.size w w' := by
  unfold putText
  by_cases h : 20000 < (s.size : Int)
  · rw [if_pos h]
    go_enter Tryz.func119, Tryz.ntmps119
    go_wp2
    go_ret
    exact ⟨rfl, Below.refl _ _⟩
  · rw [if_neg h]
    have E := fun w => specPutNum_any s.size w (by omega) (by omega)
    have hz := putNum_size s.size
    generalize (⟨(putNum s.size).toArray⟩ : ByteArray) = f at *
    have HE : Hid (∀ w, Calls Tryz.prog 120 #[.int .i64 s.size] w fun e w' => e = .returned (.string f) ∧ Below w.heap.size w w') := E
    clear E
    go_enter Tryz.func119, Tryz.ntmps119
    go_wp2_with fail
    refine (HE.out _).mono ?_
    rintro e w1 ⟨rfl, hb⟩
    go_wp2
    go_ret
    exact ⟨rfl, hb⟩

set_option maxHeartbeats 400000 in
theorem implPutText_any (s : ByteArray) (w : World) (hs : s.size ≤ 1048576) :
    Calls Tryz.prog 165 #[.string s] w fun e w' => e = .returned (.string (putText s)) ∧ Below w.heap.size w w' := by
  unfold putText
  by_cases h : 20000 < (s.size : Int)
  · rw [if_pos h]
    go_enter Tryz.func165, Tryz.ntmps165
    go_wp2
    go_ret
    exact ⟨rfl, Below.refl _ _⟩
  · rw [if_neg h]
    have E := fun w => implPutNum_any s.size w (by omega) (by omega)
    have hz := putNum_size s.size
    generalize (⟨(putNum s.size).toArray⟩ : ByteArray) = f at *
    have HE : Hid (∀ w, Calls Tryz.prog 167 #[.int .i64 s.size] w fun e w' => e = .returned (.string f) ∧ Below w.heap.size w w') := E
    clear E
    go_enter Tryz.func165, Tryz.ntmps165
    go_wp2_with fail
    refine (HE.out _).mono ?_
    rintro e w1 ⟨rfl, hb⟩
    go_wp2_with fail
    refine (joined_any f s _ (by omega) hs).mono ?_
    rintro e w2 ⟨rfl, hb2⟩
    go_wp2
    go_ret
    exact ⟨rfl, hb.trans (hb2.mono hb.size)⟩
end Go.Proofs.YtpglcbidfghfkabGreatDoor

/-
  What HeadText answers.
-/
namespace Go.Proofs.YtpglcbidfghfkabGreatDoor
open Go.RowKit Go.Lib
set_option linter.unusedVariables false
set_option linter.unusedSimpArgs false

theorem ba_size (a b : ByteArray) : (a ++ b).size = a.size + b.size := ByteArray.size_append
/-- The bytes of a number. -/
def numT (n : Int) : ByteArray := ⟨(putNum n).toArray⟩
theorem putText_size (s : ByteArray) : (putText s).size ≤ 20011 := by
  unfold putText
  split
  · exact Nat.zero_le _
  · rw [ba_size]
    have := putNum_size s.size
    omega
/-- The text that is signed of a head. -/
def headT (log : ByteArray) (size : Int) (root : ByteArray) (time : Int) : ByteArray := putText log ++ numT size ++ putText root ++ numT time
theorem headT_size (log : ByteArray) (size : Int) (root : ByteArray) (time : Int) : (headT log size root time).size ≤ 40044 := by
  unfold headT numT
  rw [ba_size, ba_size, ba_size]
  have := putText_size log
  have := putText_size root
  have := putNum_size size
  have := putNum_size time
  omega
/-- What HeadText answers. -/
def headTB (log : ByteArray) (size : Int) (root : ByteArray) (time k : Int) (el pl : List ByteArray) : ByteArray := if headRB log size root time k el pl then headT log size root time else ⟨#[]⟩
end Go.Proofs.YtpglcbidfghfkabGreatDoor
